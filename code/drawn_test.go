package code_test

import (
	"regexp"
	"slices"
	"strconv"
	"strings"
	"testing"

	"workcell/api"
	"workcell/code"
)

// Forms of lines, by the chapter's own words.
const (
	numberForm = `(0|-?[1-9][0-9]{0,9})`
	sumForm    = `(0|[1-9][0-9]{0,2})`
)

// oracle: forms of all kinds.
type oracle []*regexp.Regexp

func newOracle() oracle {
	all := make(oracle, 9)
	for kind, words := range []string{
		api.Home: "G28", api.Go: "G1 X# Y# Z#", api.Plug: "M1 S#", api.Grab: "M2", api.Eject: "M3", api.Cook: "M104 S#", api.Rest: "G4 P#", api.Turn: "M106 S#",
	} {
		form := strings.ReplaceAll(`\AN# `+words, "#", numberForm) + `\*` + sumForm + `\z`
		all[kind] = regexp.MustCompile(form)
	}
	return all
}

// parse a line, as Parse should.
func (o oracle) parse(line string) (int, api.Command, api.Errno) {
	for kind := 1; kind <= 8; kind++ {
		found := o[kind].FindStringSubmatch(line)
		if found == nil {
			continue
		}
		n := make([]int, 0, 5)
		for _, text := range found[1:] {
			v, _ := strconv.Atoi(text)
			n = append(n, v)
		}
		c := bare(kind)
		switch len(n) {
		case 3:
			c.Value = n[1]
		case 5:
			c.X, c.Y, c.Z = n[1], n[2], n[3]
		}
		e := told(line, n[0], c)
		if e != api.OK {
			return 0, api.Command{}, e
		}
		return n[0], c, e
	}
	return 0, api.Command{}, api.ErrForm
}

// told: what is wrong with a line that has a line's form?
func told(line string, n int, c api.Command) api.Errno {
	ahead, _, _ := strings.Cut(line, "*")
	if summed(ahead) != line {
		return api.ErrSum
	}
	if n < 0 || n > last {
		return api.ErrCount
	}
	for _, v := range []int{c.X, c.Y, c.Z} {
		if v < -far || v > far {
			return api.ErrRange
		}
	}
	if c.Value < 0 || c.Value > full {
		return api.ErrRange
	}
	return api.OK
}

// hold Parse against it.
func (o oracle) hold(t *testing.T, line string) api.Errno {
	t.Helper()
	n, c, e := o.parse(line)
	if m, d, f := code.Parse(line); m != n || d != c || f != e {
		t.Errorf("Parse(%q): %d, %v, %v; wanted %d, %v, %v", line, m, d, f, n, c, e)
	}
	return e
}

// P16.1, P16.2: what is printed is parsed again; with one bit turned it never is.
func TestTurned(t *testing.T) {
	d, o := die(1), newOracle()
	for range 400 {
		n, c := d.number(), d.command()
		line := printed(t, n, c)
		parses(t, line, n, c)
		for bit := range 8 * len(line) {
			b := []byte(line)
			b[bit/8] ^= 1 << (bit % 8)
			if o.hold(t, string(b)) == api.OK {
				t.Errorf("%q is parsed as %q", line, b)
			}
		}
	}
}

// P16.2: lines in which something is put, left out or changed, with their sums or the right ones.
func TestChanged(t *testing.T) {
	d, o := die(2), newOracle()
	seen := map[api.Errno]int{}
	for range 60000 {
		ahead, sum, _ := strings.Cut(printed(t, d.number(), d.command()), "*")
		for range 1 + d.n(3) {
			ahead = d.changed(ahead)
		}
		seen[o.hold(t, summed(ahead))]++
		seen[o.hold(t, d.changed(ahead+"*"+sum))]++
	}
	for _, e := range []api.Errno{api.OK, api.ErrForm, api.ErrSum, api.ErrCount, api.ErrRange} {
		if seen[e] < 50 {
			t.Errorf("%v comes %d times", e, seen[e])
		}
	}
}

// changed text: a piece is put into it, or in the place of another one.
func (d *die) changed(text string) string {
	i := d.n(len(text) + 1)
	j := min(len(text), i+d.n(3))
	return text[:i] + pick(d, "", "0", "1", "9", "-", " ", "99999", "N", "X", "S", "*", "M1", "\n") + text[j:]
}

// P16.3: drawn programs, read again; and one with a line that is turned, left out or told twice.
func TestPrograms(t *testing.T) {
	d := die(5)
	for range 300 {
		l := make([]api.Command, 1+d.n(40))
		for i := range l {
			l[i] = d.command()
		}
		text, e := code.Program(l)
		if e != api.OK {
			t.Fatalf("Program(%v): %v", l, e)
		}
		reads(t, text, l)
		all := strings.Split(strings.TrimSuffix(text, "\n"), "\n")
		for i, line := range all {
			if line != printed(t, i+1, l[i]) {
				t.Fatalf("line %d of %v: %q", i+1, l, line)
			}
		}
		i := d.n(len(all))
		stops(t, strings.Join(slices.Insert(slices.Clone(all), i, all[i]), "\n"), i+2, api.ErrOrder)
		if i+1 < len(all) {
			stops(t, strings.Join(slices.Delete(slices.Clone(all), i, i+1), "\n"), i+1, api.ErrOrder)
		}
		all[i] = strings.Replace(all[i], "*", "*1", 1)
		if n, _, e := code.Parse(all[i]); n != 0 || e == api.OK {
			t.Errorf("Parse(%q): %d, %v", all[i], n, e)
		} else {
			stops(t, strings.Join(all, "\n"), i+1, e)
		}
	}
}

// FuzzCode: texts of any form, as a line and as a program; what is parsed is printed again, to the byte.
func FuzzCode(f *testing.F) {
	f.Add("N7 G1 X1 Y-2 Z3*73")
	f.Add("N1 G28*18\nN2 M3*34\n")
	for _, ahead := range unformed() {
		f.Add(summed(ahead))
	}
	o := newOracle()
	f.Fuzz(func(t *testing.T, text string) {
		if o.hold(t, text) == api.OK {
			n, c, _ := code.Parse(text)
			if s := printed(t, n, c); s != text {
				t.Errorf("%q is printed as %q", text, s)
			}
		}
		o.hold(t, summed(strings.ReplaceAll(text, "*", "")))
		l, line, e := code.Read(text)
		if e != api.OK {
			if len(l) != 0 || (line == 0) != (e == api.ErrSize) {
				t.Errorf("Read(%q): %v, %d, %v", text, l, line, e)
			}
			return
		}
		if s, e := code.Program(l); line != 0 || e != api.OK || strings.TrimSuffix(s, "\n") != strings.TrimSuffix(text, "\n") {
			t.Errorf("Read(%q): %v, %d; its program %q, %v", text, l, line, s, e)
		}
	})
}
