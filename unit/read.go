package unit

import (
	"strings"

	"workcell/api"
)

// Digits behind a dot stand for thousandths, so texts are counted in these.
const (
	fractionDigits = 3
	thousand       = 1000
)

// wholeBound: where a whole part stops growing. It is out of range in every unit,
// and small enough that its thousandths by the greatest unit still fit.
const wholeBound = 2 * api.MaxValue

// measure: a unit's kind, its size in least units, and what is added to reach the kind's zero.
type measure struct{ kind, size, shift int }

// Read a quantity.
func Read(text string) (api.Quantity, api.Errno) {
	rest, negative := strings.CutPrefix(text, "-")
	whole, rest := cutDigits(rest)
	if whole == "" {
		return api.Quantity{}, api.ErrForm
	}
	fraction := ""
	if behind, dotted := strings.CutPrefix(rest, "."); dotted {
		fraction, rest = cutDigits(behind)
		if fraction == "" || len(fraction) > fractionDigits {
			return api.Quantity{}, api.ErrForm
		}
	}
	m, known := measureOf(rest)
	if !known {
		return api.Quantity{}, api.ErrForm
	}
	value := thousandths(whole, fraction) * m.size
	if value%thousand != 0 {
		return api.Quantity{}, api.ErrRange
	}
	if negative {
		value = -value
	}
	return quantity(m.kind, value/thousand+m.shift)
}

// cutDigits takes the digits off a text's beginning.
func cutDigits(text string) (digits, rest string) {
	rest = strings.TrimLeft(text, "0123456789")
	return text[:len(text)-len(rest)], rest
}

// thousandths of a number, told by its digits ahead of the dot and behind it.
func thousandths(whole, fraction string) int {
	n := 0
	for _, digit := range whole {
		n = min(10*n+int(digit-'0'), wholeBound)
	}
	padded := fraction + "000"
	for _, digit := range padded[:fractionDigits] {
		n = 10*n + int(digit-'0')
	}
	return n
}

// measureOf a unit's name.
func measureOf(name string) (measure, bool) {
	measures := map[string]measure{
		"":    {kind: api.Number, size: 1},
		"nl":  {kind: api.Volume, size: 1},
		"ul":  {kind: api.Volume, size: 1000},
		"ml":  {kind: api.Volume, size: 1000000},
		"um":  {kind: api.Length, size: 1},
		"mm":  {kind: api.Length, size: 1000},
		"cm":  {kind: api.Length, size: 10000},
		"mK":  {kind: api.Heat, size: 1},
		"K":   {kind: api.Heat, size: 1000},
		"C":   {kind: api.Heat, size: 1000, shift: 273150},
		"ms":  {kind: api.Time, size: 1},
		"s":   {kind: api.Time, size: 1000},
		"min": {kind: api.Time, size: 60000},
		"h":   {kind: api.Time, size: 3600000},
		"rpm": {kind: api.Turns, size: 1},
	}
	m, known := measures[strings.Map(plainRune, name)]
	return m, known
}

// plainRune: the micro sign and the Greek mu both stand for u, which no unit has but with that meaning.
func plainRune(r rune) rune {
	switch r {
	case 0x00B5, 0x03BC:
		return 'u'
	}
	return r
}
