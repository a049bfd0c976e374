package clock_test

import (
	"math"
	"math/rand"
	"slices"
	"testing"

	"hindsight/api"
	"hindsight/clock"
	"hindsight/samples"
)

func TestGood(t *testing.T) {
	for _, c := range goodLists() {
		if !clock.Good(c) {
			t.Errorf("P17.1: Good(%v) = false", c)
		}
	}
	for _, c := range badLists() {
		if clock.Good(c) {
			t.Errorf("P17.1: Good(%v) = true", c)
		}
	}
}

func TestGetExamples(t *testing.T) {
	for _, c := range []struct {
		c    []api.Tick
		g, t int
	}{
		{of(0, 5, 2, 1), 2, 1}, {of(0, 5, 2, 1), 0, 5}, {of(0, 5, 2, 1), 1, 0}, {of(0, 5, 2, 1), 3, 0}, {of(0, 5, 2, 1), -1, 0}, {of(0, 5, 2, 1), maxG, 0},
		{of(2, 1, 0, 5), 0, 0}, {of(2, 1, 0, 5), 2, 0}, {nil, 0, 0}, {of(maxG-1, math.MaxInt), maxG - 1, math.MaxInt},
		{of(-1, 7), -1, 0}, {of(maxG, 7), maxG, 0}, {of(0, -3), 0, 0}, {of(1, 4, 1, 4), 1, 0},
	} {
		if got := clock.Get(c.c, c.g); got != c.t {
			t.Errorf("P17.2: Get(%v, %d) = %d, want %d", c.c, c.g, got, c.t)
		}
	}
}

func TestSetExamples(t *testing.T) {
	c := of(0, 5, 2, 1)
	for _, x := range []struct {
		c    []api.Tick
		g, t int
		want []api.Tick
		e    api.Errno
	}{
		{c, 1, 7, of(0, 5, 1, 7, 2, 1), api.OK},
		{c, 2, 0, of(0, 5), api.OK},
		{c, 0, 0, of(2, 1), api.OK},
		{c, 0, 6, of(0, 6, 2, 1), api.OK},
		{c, 2, 1, c, api.OK},
		{c, 1, 0, c, api.OK},
		{c, 3, 0, c, api.OK},
		{c, maxG - 1, math.MaxInt, of(0, 5, 2, 1, maxG-1, math.MaxInt), api.OK},
		{of(1, 1), 0, 1, of(0, 1, 1, 1), api.OK},
		{of(1, 1), 1, 0, nil, api.OK},
		{nil, 5, 0, nil, api.OK},
		{nil, 5, 1, of(5, 1), api.OK},
		{of(0, 0), -1, -1, nil, api.ErrClock},
		{of(0, 0), 0, 1, nil, api.ErrClock},
		{nil, -1, -1, nil, api.ErrG},
		{nil, maxG, 1, nil, api.ErrG},
		{nil, maxG, 0, nil, api.ErrG},
		{nil, 0, -1, nil, api.ErrArg},
		{c, 0, math.MinInt, nil, api.ErrArg},
	} {
		got, e := clock.Set(x.c, x.g, x.t)
		if e != x.e || !slices.Equal(got, x.want) {
			t.Errorf("P17.3: Set(%v, %d, %d) = %v, %d, want %v, %d", x.c, x.g, x.t, got, e, x.want, x.e)
		}
	}
}

// TestSetFaults: each fault alone, and all of them at once: they are looked for in the order of the chapter.
func TestSetFaults(t *testing.T) {
	for _, c := range [][]api.Tick{of(0, 1), of(0, 0)} {
		for _, g := range []int{0, -1, maxG} {
			for _, n := range []int{0, 1, -1} {
				want := api.OK
				switch {
				case c[0].T == 0:
					want = api.ErrClock
				case g != 0:
					want = api.ErrG
				case n < 0:
					want = api.ErrArg
				}
				if got, e := clock.Set(c, g, n); e != want || e != api.OK && len(got) > 0 {
					t.Errorf("P17.3: Set(%v, %d, %d) = %v, %d, want %d", c, g, n, got, e, want)
				}
			}
		}
	}
}

func TestEdgesOfOne(t *testing.T) {
	for _, c := range slices.Concat(goodLists(), badLists()) {
		holdsOne(t, c, edgesOfG(), edgesOfT())
	}
}

// TestAllListsOfOne: good ones and such as are not, whatever they lack.
func TestAllListsOfOne(t *testing.T) {
	var elements []api.Tick
	for _, g := range []int{-1, 0, 1, maxG - 1, maxG} {
		for _, n := range []int{-1, 0, 1, math.MaxInt} {
			elements = append(elements, api.Tick{G: g, T: n})
		}
	}
	good := 0
	for _, c := range samples.AllLists(3, elements...) {
		holdsOne(t, c, []int{-1, 0, 1, 2, maxG - 1, maxG}, []int{-1, 0, 3})
		if clock.Good(c) {
			good++
		}
	}
	if want := 3 * 3 * 3; good != want { // each of the three goroutines is left out, or has one of two times
		t.Errorf("P17.1: %d lists are good, want %d", good, want)
	}
}

// TestManyOfOne: of longer clocks all that is in them, and what lies beside it.
func TestManyOfOne(t *testing.T) {
	r := rand.New(rand.NewSource(171))
	for range 300 {
		below := 1 + r.Intn(60)
		c := someClock(r.Intn, r.Intn(30), below)
		for g := -1; g <= below; g++ {
			holdsOne(t, c, []int{g}, []int{0, 1 + r.Intn(5)})
		}
		wide := someClock(r.Intn, r.Intn(30), maxG)
		holdsOne(t, wide, []int{0, r.Intn(maxG), maxG - 1}, []int{0, 1 + r.Intn(5)})
		for _, x := range wide {
			holdsOne(t, wide, []int{x.G - 1, x.G, x.G + 1}, []int{0, 1 + r.Intn(5)})
		}
	}
}

// TestSpoiltAtOnePlace: a long clock with one element made wrong, wherever it is, is refused by every call.
func TestSpoiltAtOnePlace(t *testing.T) {
	const n = 40
	for k := range n {
		for _, spoil := range []func(c []api.Tick){
			func(c []api.Tick) { c[k].T = 0 },
			func(c []api.Tick) { c[k].T = -c[k].T },
			func(c []api.Tick) { c[k].G = -1 },
			func(c []api.Tick) { c[k].G = maxG },
			func(c []api.Tick) { c[k].G = c[(k+n-1)%n].G },
		} {
			var c []api.Tick
			for g := range n {
				c = append(c, api.Tick{G: 2*g + 1, T: g + 1})
			}
			spoil(c)
			if clock.Good(c) {
				t.Fatalf("P17.1: Good(%v) = true", c)
			}
			holdsOne(t, c, []int{1, 2*k + 1, -1}, []int{0, 1, -1})
			for _, d := range [][]api.Tick{nil, of(0, 1), of(1, math.MaxInt), c} {
				holdsTwo(t, c, d)
				holdsTwo(t, d, c)
			}
		}
	}
}
