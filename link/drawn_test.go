package link_test

import (
	"math"
	"regexp"
	"slices"
	"strconv"
	"strings"
	"testing"

	"workcell/api"
	"workcell/link"
)

// script that is drawn.
func (d *die) script(count int) []int {
	l := make([]int, count)
	for i := range l {
		l[i] = pick(d, 0, 0, 1, 2, 3+d.n(400), 3+d.n(math.MaxInt-3))
	}
	return l
}

// slow: by each line's own piece of the script. A line with one bit turned is as good as lost.
func slow(lines []string, script []int, retry int) (taken, sent int, e api.Errno) {
	for range lines {
		piece := make([]int, retry+1)
		copy(piece, script[min(sent, len(script)):])
		end := slices.Index(piece, 0)
		if end < 0 {
			if slices.Contains(piece, 2) {
				taken++
			}
			return taken, sent + len(piece), api.ErrFault
		}
		taken, sent = taken+1, sent+end+1
	}
	return taken, sent, api.OK
}

// slowWorst: the greatest count with which a piece of that many numbers has no 0.
func slowWorst(script []int) int {
	for n := len(script); n > 0; n-- {
		for i := range len(script) - n + 1 {
			if !slices.Contains(script[i:i+n], 0) {
				return n
			}
		}
	}
	return 0
}

// hold Send and Worst against the slow ones, and against what comes of it.
func hold(t *testing.T, lines []string, script []int, retry int) api.Errno {
	t.Helper()
	taken, sent, e := slow(lines, script, retry)
	sends(t, lines, script, retry, taken, sent, e)
	worst, f := link.Worst(script)
	if want := slowWorst(script); worst != want || f != api.OK {
		t.Errorf("Worst(%v): %d, %v; wanted %d", script, worst, f, want)
	}
	if retry >= worst && (e != api.OK || taken != len(lines)) {
		t.Errorf("Send(%q, %v, %d): %d, %v, but it should be all of them", lines, script, retry, taken, e)
	}
	return e
}

// P17.1, P17.2: drawn lines and scripts.
func TestDrawn(t *testing.T) {
	d := die(4)
	seen := map[api.Errno]int{}
	for range 5000 {
		seen[hold(t, d.row(d.n(pick(&d, 1, 20, last-20)), d.n(12)), d.script(d.n(25)), pick(&d, 0, 1, 2, 3, 4, 10, 100))]++
	}
	if seen[api.OK] < 500 || seen[api.ErrFault] < 500 {
		t.Error(seen)
	}
}

// P17.1, P17.2: all short scripts.
func TestShort(t *testing.T) {
	d := die(5)
	for all := range 4 * 4 * 4 * 4 * 4 * 4 {
		var script []int
		for left := all; left > 0; left /= 4 {
			script = append(script, left%4)
		}
		for retry := range 4 {
			hold(t, d.row(1, 3), script, retry)
		}
	}
}

// Form of a script, by the chapter's own words: digits, and what is none of them, or a blank, between.
var scriptForm = regexp.MustCompile(`\A([ .xa]|([3-9]|[1-9][0-9]{1,4})([ .xa]|\z))*\z`)

// slowScript of a text.
func slowScript(text string) ([]int, api.Errno) {
	if !scriptForm.MatchString(text) {
		return nil, api.ErrForm
	}
	var l []int
	for _, word := range strings.Fields(strings.NewReplacer(".", " . ", "x", " x ", "a", " a ").Replace(text)) {
		n, _ := strconv.Atoi(word)
		if i := strings.Index(".xa", word); i >= 0 {
			n = i
		}
		l = append(l, n)
	}
	if len(l) > most {
		return nil, api.ErrSize
	}
	return l, api.OK
}

// holdScript against the slow one.
func holdScript(t *testing.T, text string) api.Errno {
	t.Helper()
	want, e := slowScript(text)
	l, f := link.Script(text)
	if !slices.Equal(l, want) || e != f {
		t.Errorf("Script(%.200q): %.200v, %v; wanted %.200v, %v", text, l, f, want, e)
	}
	return e
}

// P17.2: drawn texts, and all short ones of some signs.
func TestScriptDrawn(t *testing.T) {
	d := die(6)
	seen := map[api.Errno]int{}
	for range 30000 {
		var text strings.Builder
		for range d.n(15) {
			text.WriteString(pick(&d, ".", "x", "a", " ", " ", " 7", "12", "30 ", "345", " 99999 ", pick(&d, "0", "2", "b", "6", " ")))
		}
		seen[holdScript(t, text.String())]++
	}
	if seen[api.OK] < 3000 || seen[api.ErrForm] < 3000 {
		t.Error(seen)
	}
	const some = " .xa0123"
	for all := range 1 << 18 {
		text := make([]byte, 0, 6)
		for left := all; left > 0; left /= len(some) {
			text = append(text, some[left%len(some)])
		}
		holdScript(t, string(text))
	}
}

// FuzzLink: texts of any form as scripts; lines as they come.
func FuzzLink(f *testing.F) {
	f.Add("x . a", "N1 G28*18\nN2 M3*34", 1)
	f.Add("17 x3 99999", "", 0)
	f.Add("05", "N7 G1 X1 Y-2 Z3*73", 100)
	f.Fuzz(func(t *testing.T, text, program string, retry int) {
		if holdScript(t, text) != api.OK || strings.Count(program, "\n") >= most {
			return
		}
		script, _ := link.Script(text)
		if retry < 0 || retry > again {
			refuses(t, strings.Split(program, "\n"), script, retry, api.ErrRange)
			return
		}
		lines := strings.Split(program, "\n")
		if got, sent, e := link.Send(lines, script, retry); e == api.ErrForm {
			if len(got) != 0 || sent != 0 {
				t.Errorf("%q: %q, %d", lines, got, sent)
			}
			lines = grabs(len(text)%100, len(program)%20)
		}
		hold(t, lines, script, retry)
	})
}
