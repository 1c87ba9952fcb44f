package book

import (
	"cmp"
	"strings"

	"workcell/api"
)

// blank between the words of a line.
const blank = " "

// mostWords of a line: Fill's.
const mostWords = 5

// wording of a kind of action: its line's first word, and the parts behind it.
type wording struct {
	first string
	parts []part
}

// wordings of all kinds.
type wordings map[int]wording

func newWordings() wordings {
	slot := number{low: 1, high: api.Slots, of: func(a *api.Action) *int { return &a.Place.Slot }}
	volume := number{high: api.MaxVolume, of: func(a *api.Action) *int { return &a.Volume }}
	value := number{high: api.MaxVolume, of: func(a *api.Action) *int { return &a.Value }}
	time := number{high: api.MaxVolume, of: func(a *api.Action) *int { return &a.Time }}
	return wordings{
		api.Fill:  {"fill", []part{slot, spot{}, label{}, volume}},
		api.Tip:   {"tip", nil},
		api.Drop:  {"drop", nil},
		api.Draw:  {"draw", []part{slot, spot{}, volume}},
		api.Put:   {"put", []part{slot, spot{}, volume}},
		api.Warm:  {"heat", []part{value}},
		api.Hold:  {"hold", []part{time}},
		api.Shake: {"shake", []part{value, time}},
		api.Wait:  {"wait", []part{time}},
	}
}

// line of an action.
func (w wordings) line(a api.Action) (string, api.Errno) {
	of, ok := w[a.Kind]
	if !ok {
		return "", api.ErrKind
	}
	if e := of.refuse(a); e != api.OK {
		return "", e
	}
	line := of.tell(a)
	// What the kind has no use for isn't in the line, and so not in what the line tells back.
	if back, _ := w.action(line); back != a {
		return "", api.ErrForm
	}
	return line, api.OK
}

// action of a line; is it an action's?
func (w wordings) action(line string) (api.Action, bool) {
	words := strings.SplitN(line, blank, mostWords+1)
	kind := w.kindOf(words[0])
	parts := w[kind].parts
	if kind == 0 || len(words) != 1+len(parts) {
		return api.Action{}, false
	}
	a := api.Action{Kind: kind}
	for i, p := range parts {
		if !p.read(words[1+i], &a) {
			return api.Action{}, false
		}
	}
	return a, true
}

// kindOf a first word; 0, if it is none.
func (w wordings) kindOf(first string) int {
	for kind, of := range w {
		if of.first == first {
			return kind
		}
	}
	return 0
}

// refuse an action for what its parts speak of.
func (w wording) refuse(a api.Action) api.Errno {
	fault := api.OK
	for _, p := range w.parts {
		e := p.refuse(a)
		if e == api.ErrRange { // it is named first, wherever it is
			return e
		}
		fault = cmp.Or(fault, e)
	}
	return fault
}

// tell the line of an action with which nothing is wrong.
func (w wording) tell(a api.Action) string {
	words := []string{w.first}
	for _, p := range w.parts {
		words = append(words, p.tell(a))
	}
	return strings.Join(words, blank)
}
