package unit_test

import (
	"math/big"
	"strings"
	"testing"

	"workcell/api"
	"workcell/unit"
)

// P1.1: every unit, by its own size.
func TestReadUnits(t *testing.T) {
	for text, want := range map[string]api.Quantity{
		"3":            quantity(api.Number, 3),
		"3nl":          quantity(api.Volume, 3),
		"3ul":          quantity(api.Volume, 3000),
		"3\u00b5l":     quantity(api.Volume, 3000),
		"3\u03bcl":     quantity(api.Volume, 3000),
		"3ml":          quantity(api.Volume, 3000000),
		"3um":          quantity(api.Length, 3),
		"3\u00b5m":     quantity(api.Length, 3),
		"3\u03bcm":     quantity(api.Length, 3),
		"3mm":          quantity(api.Length, 3000),
		"3cm":          quantity(api.Length, 30000),
		"3mK":          quantity(api.Heat, 3),
		"3K":           quantity(api.Heat, 3000),
		"3C":           quantity(api.Heat, 276150),
		"3ms":          quantity(api.Time, 3),
		"3s":           quantity(api.Time, 3000),
		"3min":         quantity(api.Time, 180000),
		"3h":           quantity(api.Time, 10800000),
		"3rpm":         quantity(api.Turns, 3),
		"12.5ul":       quantity(api.Volume, 12500),
		"12.5\u00b5l":  quantity(api.Volume, 12500),
		"37C":          quantity(api.Heat, 310150),
		"-5C":          quantity(api.Heat, 268150),
		"-0.5C":        quantity(api.Heat, 272650),
		"-273.15C":     quantity(api.Heat, 0),
		"-300C":        quantity(api.Heat, -26850),
		"-7":           quantity(api.Number, -7),
		"-0":           quantity(api.Number, 0),
		"007nl":        quantity(api.Volume, 7),
		"2.0":          quantity(api.Number, 2),
		"2.000rpm":     quantity(api.Turns, 2),
		"-1.5mm":       quantity(api.Length, -1500),
		"0.05cm":       quantity(api.Length, 500),
		"0.0cm":        quantity(api.Length, 0),
		"0.001min":     quantity(api.Time, 60),
		"0.001h":       quantity(api.Time, 3600),
		"0.001ml":      quantity(api.Volume, 1000),
		"0.125s":       quantity(api.Time, 125),
		"0.120s":       quantity(api.Time, 120),
		"1000000000":   quantity(api.Number, most),
		"-1000000000":  quantity(api.Number, -most),
		"1000ml":       quantity(api.Volume, most),
		"-1000ml":      quantity(api.Volume, -most),
		"999726.85C":   quantity(api.Heat, most),
		"-1000273.15C": quantity(api.Heat, -most),
	} {
		if got, e := unit.Read(text); got != want || e != api.OK {
			t.Errorf("Read(%q): %v, %v, not %v", text, got, e, want)
		}
	}
}

// P1.1: leading zeros, however many, change nothing.
func TestReadManyZeros(t *testing.T) {
	got, e := unit.Read(strings.Repeat("0", 5000) + "12.5ul")
	if got != quantity(api.Volume, 12500) || e != api.OK {
		t.Error(got, e)
	}
}

// P1.1: what is not told as a quantity is.
func TestReadForm(t *testing.T) {
	for _, text := range []string{
		"", "-", ".", "-.", "nl", "-nl", ".5", "-.5ul", "5.", "5.ul", "5..1", "5.1.1", "1.2345", "1.0000ul", "0.5000",
		"+5", "--5", "- 5", "5-", "-5-", " 5", "5 ", "5 ul", "5\n", "5\x00", "1,5ul", "1_000", "1e3", "0x10",
		"5UL", "5uL", "5NL", "5l", "5u", "5n", "5\u00b5", "5m", "5k", "5c", "5mk", "5Ms", "5S", "5H", "5sec", "5RPM", "5rp", "5rpmm",
		"5ull", "5ulul", "5ul5", "5x", "5nm", "5cl", "5\u00b5s", "5\u00b5K", "5\u00b5\u00b5l", "5\u00b5ul", "5m\u00b5",
		"5\u212a", "5\u2103", "5\u00b0C", "\u0665nl", "\uff15", "5\uff15", "\u22125", "5\xb5l", "5\xc2l", "5\xce\xbc", "5\xff", "\xff5", "\ufeff5",
		"99999999999999999999x", "99999999999999999999.1234", "-99999999999999999999.",
	} {
		if got, e := unit.Read(text); got != (api.Quantity{}) || e != api.ErrForm {
			t.Errorf("Read(%q): %v, %v", text, got, e)
		}
	}
}

// P1.1: well told, but no whole number of units, or too great.
func TestReadRange(t *testing.T) {
	for _, text := range []string{
		"0.5", "-0.5", "1.001", "0.5nl", "-0.001um", "2.25\u00b5m", "1.5mK", "7.999ms", "0.1rpm",
		"1000000001", "-1000000001", "1000000000.001", "1000000001nl", "1000000.001ul", "1000.001ml", "-1000.001ml",
		"100000.001cm", "1000000.001K", "999726.851C", "-1000273.151C", "1000000C", "16667min", "278h", "-278h",
		"1000000001rpm", "2000000000", "2000000001", "9223372036854775807", "9223372036854775808", "-9223372036854775808",
		"18446744073709551616", "18446744073709551617nl", "-18446744073709551616C", "5124095576030431h",
		"1" + strings.Repeat("0", 5000) + "h", "-" + strings.Repeat("9", 5000) + ".999C",
	} {
		if got, e := unit.Read(text); got != (api.Quantity{}) || e != api.ErrRange {
			t.Errorf("Read(%q): %v, %v", text, got, e)
		}
	}
}

// exact: what a well told number of a unit is, by fractions of any size.
func exact(number string, kind int, size, shift int64) (api.Quantity, api.Errno) {
	r, _ := new(big.Rat).SetString(number)
	r.Mul(r, new(big.Rat).SetInt64(size))
	r.Add(r, new(big.Rat).SetInt64(shift))
	if !r.IsInt() || r.Num().CmpAbs(big.NewInt(most)) > 0 {
		return api.Quantity{}, api.ErrRange
	}
	return quantity(kind, int(r.Num().Int64())), api.OK
}

// P1.1: numbers of all lengths, in all units, held against fractions.
func TestReadExact(t *testing.T) {
	units := []struct {
		name        string
		kind        int
		size, shift int64
	}{
		{"", api.Number, 1, 0},
		{"nl", api.Volume, 1, 0}, {"ul", api.Volume, 1000, 0}, {"\u00b5l", api.Volume, 1000, 0}, {"ml", api.Volume, 1000000, 0},
		{"um", api.Length, 1, 0}, {"\u03bcm", api.Length, 1, 0}, {"mm", api.Length, 1000, 0}, {"cm", api.Length, 10000, 0},
		{"mK", api.Heat, 1, 0}, {"K", api.Heat, 1000, 0}, {"C", api.Heat, 1000, 273150},
		{"ms", api.Time, 1, 0}, {"s", api.Time, 1000, 0}, {"min", api.Time, 60000, 0}, {"h", api.Time, 3600000, 0},
		{"rpm", api.Turns, 1, 0},
	}
	digits := "31415926535897932384626433832795028841971693993751058209749445923078164062862089986280348253421170679"
	for _, u := range units {
		for length := 1; length <= 30; length++ {
			for start := range 60 {
				for _, fraction := range []string{"", ".0", ".5", ".25", ".125", ".050", ".999"} {
					for _, sign := range []string{"", "-"} {
						number := sign + digits[start:start+length] + fraction
						got, e := unit.Read(number + u.name)
						want, f := exact(number, u.kind, u.size, u.shift)
						if got != want || e != f {
							t.Fatalf("Read(%q): %v, %v, not %v, %v", number+u.name, got, e, want, f)
						}
					}
				}
			}
		}
	}
}

// P1.1: no text makes Read panic, and what it takes may be.
func FuzzRead(f *testing.F) {
	for _, text := range []string{"12.5ul", "-37C", "3\u00b5m", "5.", "1e9", "\xff", "00000000000000000001h"} {
		f.Add(text)
	}
	f.Fuzz(func(t *testing.T, text string) {
		q, e := unit.Read(text)
		switch e {
		case api.OK:
			if !unit.May(q) {
				t.Errorf("Read(%q): %v", text, q)
			}
		case api.ErrForm, api.ErrRange:
			if q != (api.Quantity{}) {
				t.Errorf("Read(%q): %v beside %v", text, q, e)
			}
		default:
			t.Errorf("Read(%q): %v", text, e)
		}
	})
}
