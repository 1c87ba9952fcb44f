package code_test

import (
	"math"
	"slices"
	"strings"
	"testing"

	"workcell/api"
	"workcell/code"
)

// reads: are these the program's commands?
func reads(t *testing.T, text string, want []api.Command) {
	t.Helper()
	l, line, e := code.Read(text)
	if !slices.Equal(l, want) || line != 0 || e != api.OK {
		t.Errorf("Read(%.200q): %d commands, %d, %v; wanted %d", text, len(l), line, e, len(want))
	}
}

// stops: does reading end so, at that line, with nothing beside it?
func stops(t *testing.T, text string, at int, want api.Errno) {
	t.Helper()
	l, line, e := code.Read(text)
	if len(l) != 0 || line != at || e != want {
		t.Errorf("Read(%.200q): %d commands, %d, %v; wanted %d, %v", text, len(l), line, e, at, want)
	}
}

// P16.3: programs of some commands.
func TestProgram(t *testing.T) {
	for _, c := range []struct {
		l    []api.Command
		want string
	}{
		{nil, ""},
		{[]api.Command{}, ""},
		{[]api.Command{bare(api.Home)}, "N1 G28*18\n"},
		{[]api.Command{bare(api.Home), bare(api.Eject)}, "N1 G28*18\nN2 M3*34\n"},
		{[]api.Command{bare(api.Home), bare(api.Home), to(1, -2, 3), with(api.Plug, 5)}, lines("N1 G28", "N2 G28", "N3 G1 X1 Y-2 Z3", "N4 M1 S5")},
		{slices.Repeat([]api.Command{bare(api.Grab)}, 11), lines("N1 M2", "N2 M2", "N3 M2", "N4 M2", "N5 M2", "N6 M2", "N7 M2", "N8 M2", "N9 M2", "N10 M2", "N11 M2")},
	} {
		if s, e := code.Program(c.l); s != c.want || e != api.OK {
			t.Errorf("Program(%v): %q, %v; wanted %q", c.l, s, e, c.want)
		}
		reads(t, c.want, c.l)
		reads(t, strings.TrimSuffix(c.want, "\n"), c.l)
	}
}

// P16.3: the first command's fault.
func TestProgramFault(t *testing.T) {
	faults := map[api.Errno]api.Command{api.ErrKind: bare(0), api.ErrRange: with(api.Plug, -1), api.ErrForm: with(api.Grab, 1)}
	for first, c := range faults {
		for _, other := range faults {
			for _, l := range [][]api.Command{{c}, {c, other}, {bare(api.Home), c, other}, {bare(api.Home), c}, {c, bare(api.Home)}} {
				if s, e := code.Program(l); s != "" || e != first {
					t.Errorf("Program(%v): %q, %v; wanted %v", l, s, e, first)
				}
			}
		}
	}
}

// P16.3: how many commands, and lines, there may be; ahead of all that is wrong with them.
func TestSize(t *testing.T) {
	d := die(3)
	most := make([]api.Command, last)
	for i := range most {
		most[i] = d.command()
	}
	text, e := code.Program(most)
	if strings.Count(text, "\n") != last || e != api.OK {
		t.Fatalf("%d lines, %v", strings.Count(text, "\n"), e)
	}
	reads(t, text, most)
	reads(t, text[:len(text)-1], most)
	for _, more := range []api.Command{bare(api.Home), bare(0)} {
		if s, e := code.Program(append(slices.Clone(most), more)); s != "" || e != api.ErrSize {
			t.Errorf("more: %d bytes, %v", len(s), e)
		}
	}
	if s, e := code.Program(make([]api.Command, last+1)); s != "" || e != api.ErrSize {
		t.Errorf("more that are none: %d bytes, %v", len(s), e)
	}
	for _, more := range []string{"N100001 G28*", "\n", "\n\n", "x", "x\n", summed("N100001 G28")} {
		stops(t, text+more, 0, api.ErrSize)
	}
	stops(t, strings.Repeat("\n", last+1), 0, api.ErrSize)
	stops(t, strings.Repeat("\n", last)+"x", 0, api.ErrSize)
	stops(t, strings.Repeat("\n", last), 1, api.ErrForm)
	stops(t, strings.Repeat("\n", last-1)+"x", 1, api.ErrForm)
	end := strings.LastIndex(text[:len(text)-1], "\n") + 1
	stops(t, text[:end]+"x", last, api.ErrForm)
	stops(t, text[:end]+"\n", last, api.ErrForm)
	stops(t, text[:end]+summed("N99999 G28"), last, api.ErrOrder)
}

// P16.3: at which line reading ends: at the first fault, whatever stands behind it.
func TestRead(t *testing.T) {
	first, second, third := summed("N1 G28"), summed("N2 M2"), summed("N3 M3")
	all := []string{first, second, third}
	for wrong, want := range map[string]api.Errno{
		"": api.ErrForm, "x": api.ErrForm, " " + first: api.ErrForm, first + "\r": api.ErrForm, "N1 G28*018": api.ErrForm,
		"N1 G28*19": api.ErrSum, "N2 G28*18": api.ErrSum, "N9 G1 X1 Y-2 Z3*1": api.ErrSum,
		summed("N100001 G28"): api.ErrCount, summed("N-1 G28"): api.ErrCount, summed("N100001 M1 S-1"): api.ErrCount,
		summed("N1 M1 S-1"): api.ErrRange, summed("N9 G1 X0 Y0 Z10000001"): api.ErrRange,
		summed("N0 G28"): api.ErrOrder, summed("N4 G28"): api.ErrOrder, summed("N100000 G28"): api.ErrOrder,
	} {
		for i := range all {
			l := slices.Clone(all)
			l[i] = wrong
			stops(t, strings.Join(l, "\n")+"\n", i+1, want)
			stops(t, strings.Join(append(l, "x", "N1"), "\n"), i+1, want)
		}
	}
	reads(t, "", nil)
	stops(t, "\n", 1, api.ErrForm)
	stops(t, "\n\n", 1, api.ErrForm)
	stops(t, first+"\n\n", 2, api.ErrForm)
	stops(t, first+"\n\n"+second, 2, api.ErrForm)
	stops(t, "\n"+first, 1, api.ErrForm)
	stops(t, first+"\r\n"+second, 1, api.ErrForm)
	stops(t, first+first, 1, api.ErrForm)
	stops(t, first+"\n"+first, 2, api.ErrOrder)
	stops(t, second+"\n"+first, 1, api.ErrOrder)
	stops(t, first+"\n"+third, 2, api.ErrOrder)
	stops(t, first+"\n"+second+"\n"+second+"\n", 3, api.ErrOrder)
}

// P16.3: commands that are handed in stay as they are, their spare room too; and answers share nothing.
func TestMemory(t *testing.T) {
	d := die(4)
	room := make([]api.Command, 30)
	for i := range room {
		room[i] = d.command()
	}
	kept := slices.Clone(room)
	text, e := code.Program(room[:20])
	if e != api.OK || !slices.Equal(room, kept) {
		t.Fatal("commands have changed:", e)
	}
	first, _, _ := code.Read(text)
	second, _, _ := code.Read(text)
	first = first[:cap(first)]
	for i := range first {
		first[i] = with(math.MaxInt, 7)
	}
	if !slices.Equal(second, kept[:20]) {
		t.Error("answers share something")
	}
	reads(t, text, kept[:20])
}
