package book_test

import (
	"bytes"
	"fmt"
	"regexp"
	"slices"
	"strconv"
	"strings"

	"workcell/api"
)

// lineOf an action that may be, by the chapter's words.
func lineOf(a api.Action) string {
	spot := fmt.Sprintf("%c%d", 'A'+a.Place.Spot.Row, 1+a.Place.Spot.Column)
	switch a.Kind {
	case api.Fill:
		return fmt.Sprintf("fill %d %s %s %d", a.Place.Slot, spot, a.Label, a.Volume)
	case api.Draw:
		return fmt.Sprintf("draw %d %s %d", a.Place.Slot, spot, a.Volume)
	case api.Put:
		return fmt.Sprintf("put %d %s %d", a.Place.Slot, spot, a.Volume)
	case api.Warm:
		return fmt.Sprintf("heat %d", a.Value)
	case api.Shake:
		return fmt.Sprintf("shake %d %d", a.Value, a.Time)
	}
	words := map[int]string{api.Tip: "tip", api.Drop: "drop", api.Hold: "hold", api.Wait: "wait"}
	if a.Kind == api.Hold || a.Kind == api.Wait {
		return fmt.Sprintf("%s %d", words[a.Kind], a.Time)
	}
	return words[a.Kind]
}

// slowLine: what Line should tell.
func slowLine(a api.Action) (string, api.Errno) {
	if !slices.Contains(kinds(), a.Kind) {
		return "", api.ErrKind
	}
	needless, use := a, used(a.Kind)
	needless.Kind = 0
	for name, n := range fields(&a) {
		edges, isUsed := use[name]
		if isUsed && (*n < edges[0] || *n > edges[1]) {
			return "", api.ErrRange
		}
		if isUsed {
			*fields(&needless)[name] = 0
		}
	}
	if a.Kind == api.Fill {
		if !regexp.MustCompile(`\A[a-z][a-z0-9]{0,15}\z`).MatchString(a.Label) {
			return "", api.ErrName
		}
		needless.Label = ""
	}
	if needless != (api.Action{}) {
		return "", api.ErrForm
	}
	return lineOf(a), api.OK
}

// oracle: forms of all kinds' lines.
type oracle map[int]*regexp.Regexp

func newOracle() oracle {
	const place = `(?P<slot>[1-9]|1[0-2]) (?P<row>[A-P])(?P<column>[1-9]|1[0-9]|2[0-4]) `
	number := func(name string) string { return `(?P<` + name + `>0|[1-9][0-9]{0,9})` }
	o := oracle{}
	for kind, form := range map[int]string{
		api.Fill: "fill " + place + `(?P<label>[a-z][a-z0-9]{0,15}) ` + number("volume"),
		api.Tip:  "tip", api.Drop: "drop",
		api.Draw: "draw " + place + number("volume"), api.Put: "put " + place + number("volume"),
		api.Warm: "heat " + number("value"), api.Hold: "hold " + number("time"), api.Wait: "wait " + number("time"),
		api.Shake: "shake " + number("value") + " " + number("time"),
	} {
		o[kind] = regexp.MustCompile(`\A` + form + `\z`)
	}
	return o
}

// action of a line, as Action should tell it.
func (o oracle) action(line string) (api.Action, api.Errno) {
	for kind, form := range o {
		found := form.FindStringSubmatch(line)
		if found == nil {
			continue
		}
		a := api.Action{Kind: kind}
		for i, name := range form.SubexpNames() {
			switch text := found[i]; name {
			case "row":
				a.Place.Spot.Row = strings.Index("ABCDEFGHIJKLMNOP", text)
			case "label":
				a.Label = text
			case "slot", "column", "volume", "value", "time":
				n, _ := strconv.Atoi(text)
				if n > full {
					return api.Action{}, api.ErrForm
				}
				*fields(&a)[name] = n
			}
		}
		if kind == api.Fill || kind == api.Draw || kind == api.Put {
			a.Place.Spot.Column--
		}
		return a, api.OK
	}
	return api.Action{}, api.ErrForm
}

// open a book, as Open should: what is left begins with an entry, if it begins with that of one of its own pieces.
func (o oracle) open(b []byte) ([]api.Action, int, api.Errno) {
	if len(b) > 20000 {
		return nil, 0, api.ErrSize
	}
	if !bytes.HasPrefix(b, []byte("CELL")) {
		return nil, 0, api.ErrForm
	}
	var l []api.Action
	n := 4
next:
	for {
		for size := range 40 {
			if n+2+size > len(b) {
				continue
			}
			line := string(b[n+2 : n+2+size])
			if !bytes.HasPrefix(b[n:], entry(line)) {
				continue
			}
			if a, e := o.action(line); e == api.OK {
				l, n = append(l, a), n+4+size
				continue next
			}
		}
		return l, n, api.OK
	}
}
