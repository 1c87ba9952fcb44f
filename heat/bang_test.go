package heat_test

import (
	"slices"
	"testing"

	"workcell/api"
	"workcell/heat"
)

// P19.2: on below target less band, off above target and band, and between as it was.
func TestBang(t *testing.T) {
	h := of(10, 0, 0, 1000)
	bangs(t, h, 0, 30, 5, 10, 20, 30, 40, 40, 40) // on at 30 as it was, off at 40: without a loss it stays
	bangs(t, h, 0, 30, 0, 10, 20, 30, 40, 40)     // just at target: as it was, on
	bangs(t, h, 0, 35, 0, 10, 20, 30, 40, 40)
	bangs(t, even(), 100, 60, 10, 75, 57, 43, 43, 43, 43) // off at 57, on at 43: as much comes as goes
	warm := of(30, 256, 0, 1000)
	bangs(t, warm, 100, 60, 10, 75, 57, 43, 63, 78, 59, 45, 64, 78, 59, 45)
	bangs(t, warm, 63, 60, 10, 48, 66, 80, 60, 45) // 63 is between: off at first; 66 is between: on, as it was
	bangs(t, warm, 60, 60, 0, 45, 64, 48, 66, 50)
}

// P19.2: just at the ends of the band it is as in the tick ahead.
func TestBangEnds(t *testing.T) {
	h := of(10, 0, 0, 1000)
	bangs(t, h, 25, 30, 5, 25, 25)         // off at first
	bangs(t, h, 24, 30, 5, 34, 44, 44)     // on, and as it was, and off
	bangs(t, h, 35, 30, 5, 35, 35)         // off at first
	bangs(t, h, 15, 30, 5, 25, 35, 45, 45) // on at 25 and at 35, as it was
	bangs(t, h, 36, 30, 5, 36, 36)
	loss := of(0, 512, 0, 1000)
	bangs(t, loss, 100, 30, 20, 50, 25, 13, 7, 4, 2, 1, 1) // on or off is one
	cool := of(8, 512, 0, 1000)
	bangs(t, cool, 80, 30, 10, 40, 20, 10, 13, 15, 16, 16)        // off at 40 and at 20, as it was
	bangs(t, of(40, 512, 0, 1000), 0, 30, 10, 40, 60, 30, 15, 48) // on at 40, as it was; off at 60, and at 30, as it was
}

// P19.2: a target at the edges, and a band that is beyond all heats.
func TestBangEdges(t *testing.T) {
	h := of(10, 0, 0, 30)
	bangs(t, h, 0, 0, 0, 0, 0)             // just at target: off at first
	bangs(t, h, 0, hot, 0, 10, 20, 30, 30) // never there
	bangs(t, h, 0, hot, count, 10, 20, 30, 30)
	bangs(t, h, 0, 5, 6, 0, 0) // below 0 no heat is
	bangs(t, h, 0, count, count, 0, 0)
	bangs(t, h, 0, count+1, count, 10, 20)
	bangs(t, h, hot, 0, 0, 30, 30) // above Most comes to Most
	bangs(t, of(10, 0, 0, hot), hot, hot, count, hot, hot)
	bangs(t, of(0, 512, 0, hot), hot, 0, 0, 500000, 250000, 125000, 62500)
	bangs(t, of(10, 256, 500, 1000), 0, 0, 0, 125, 218, 288) // warmed by what is around
	bangs(t, of(gains, half, 0, hot), 0, hot, 0, 100000, 150000, 175000, 187500)
}

// P19.2: no ticks, and as many as may be.
func TestBangTicks(t *testing.T) {
	bangs(t, even(), 500, 700, 3)
	bangs(t, of(5, 0, 0, hot), hot, 0, count)
	l, e := heat.Bang(of(1, 0, 0, hot), 0, hot, 0, long)
	if len(l) != long || e != api.OK {
		t.Fatalf("%d, %v", len(l), e)
	}
	for i, n := range l {
		if n != i+1 {
			t.Fatalf("heat %d: %d", i, n)
		}
	}
}

// P19.2: what comes out is new, spare room too.
func TestBangIsNew(t *testing.T) {
	ask := func() []int {
		l, e := heat.Bang(even(), 0, 60, 10, 20)
		if e != api.OK {
			t.Fatal(e)
		}
		return l
	}
	one, two := ask(), ask()
	kept := slices.Clone(two)
	one = one[:cap(one)]
	for i := range one {
		one[i] = -7
	}
	if !slices.Equal(two, kept) || !slices.Equal(ask(), kept) {
		t.Error("an answer is shared")
	}
}
