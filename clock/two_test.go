package clock_test

import (
	"math"
	"math/rand"
	"slices"
	"testing"

	"hindsight/api"
	"hindsight/clock"
)

func TestTwoExamples(t *testing.T) {
	for _, c := range []struct {
		a, b, joined, met []api.Tick
		leq, geq          bool
	}{
		{of(0, 5, 2, 1), of(1, 1, 2, 3), of(0, 5, 1, 1, 2, 3), of(2, 1), false, false},
		{of(0, 5), of(1, 1), of(0, 5, 1, 1), nil, false, false},
		{of(2, 1), of(0, 5, 2, 1), of(0, 5, 2, 1), of(2, 1), true, false},
		{of(0, 1), of(1, 1), of(0, 1, 1, 1), nil, false, false},
		{nil, nil, nil, nil, true, true},
		{nil, of(0, 5, 2, 1), of(0, 5, 2, 1), nil, true, false},
		{of(0, 5, 2, 1), of(0, 5, 2, 1), of(0, 5, 2, 1), of(0, 5, 2, 1), true, true},
		{of(0, 1, 1, 2), of(0, 2, 1, 1), of(0, 2, 1, 2), of(0, 1, 1, 1), false, false},
		{of(0, math.MaxInt), of(0, math.MaxInt-1), of(0, math.MaxInt), of(0, math.MaxInt-1), false, true},
		{of(0, 1, maxG-1, 1), of(maxG-1, math.MaxInt), of(0, 1, maxG-1, math.MaxInt), of(maxG-1, 1), false, false},
	} {
		joined, e1 := clock.Join(c.a, c.b)
		met, e2 := clock.Meet(c.a, c.b)
		leq, e3 := clock.Leq(c.a, c.b)
		geq, e4 := clock.Leq(c.b, c.a)
		apart, e5 := clock.Apart(c.a, c.b)
		for k, e := range []api.Errno{e1, e2, e3, e4, e5} {
			if e != api.OK {
				t.Errorf("P17.4 to P17.6: the call %d of %v and %v: %d", k, c.a, c.b, e)
			}
		}
		if !slices.Equal(joined, c.joined) || !slices.Equal(met, c.met) {
			t.Errorf("P17.4, P17.5: of %v and %v: Join %v, want %v; Meet %v, want %v", c.a, c.b, joined, c.joined, met, c.met)
		}
		if leq != c.leq || geq != c.geq || apart != (!c.leq && !c.geq) {
			t.Errorf("P17.6: of %v and %v: Leq %v, the other way round %v, Apart %v", c.a, c.b, leq, geq, apart)
		}
	}
}

// TestTwoFaults: one that is no clock, on either side, or on both.
func TestTwoFaults(t *testing.T) {
	for _, bad := range badLists() {
		for _, other := range slices.Concat(goodLists(), badLists()) {
			for _, p := range [][2][]api.Tick{{bad, other}, {other, bad}} {
				joined, e1 := clock.Join(p[0], p[1])
				met, e2 := clock.Meet(p[0], p[1])
				leq, e3 := clock.Leq(p[0], p[1])
				apart, e4 := clock.Apart(p[0], p[1])
				for k, e := range []api.Errno{e1, e2, e3, e4} {
					if e != api.ErrClock {
						t.Errorf("P17.4 to P17.6: the call %d of %v and %v: %d", k, p[0], p[1], e)
					}
				}
				if len(joined)+len(met) > 0 || leq || apart {
					t.Errorf("P0.2: of %v and %v: %v, %v, %v, %v", p[0], p[1], joined, met, leq, apart)
				}
			}
		}
	}
}

// smallClocks are all clocks with some times, 0 among them, of three goroutines.
func smallClocks(times ...int) [][]api.Tick {
	var out [][]api.Tick
	for _, r := range times {
		for _, s := range times {
			for _, u := range times {
				out = append(out, plainClock(map[int]int{0: r, 7: s, maxG - 1: u}))
			}
		}
	}
	return out
}

func TestAllPairs(t *testing.T) {
	clocks := append(smallClocks(0, 1, 2, math.MaxInt-1, math.MaxInt), goodLists()...)
	for _, a := range clocks {
		for _, b := range clocks {
			holdsTwo(t, a, b)
		}
	}
}

// TestManyPairs: clocks that have little to do with each other, and such as differ in little.
func TestManyPairs(t *testing.T) {
	r := rand.New(rand.NewSource(172))
	seen := map[string]int{}
	for range 4000 {
		below := []int{1, 5, 40, maxG}[r.Intn(4)]
		a := someClock(r.Intn, r.Intn(30), below)
		for _, b := range [][]api.Tick{someClock(r.Intn, r.Intn(30), below), near(r.Intn, a, below), a[r.Intn(len(a)+1):], a[:r.Intn(len(a)+1)]} {
			holdsTwo(t, a, b)
			holdsTwo(t, b, a)
			seen[relation(a, b)]++
		}
	}
	for _, how := range []string{"the same", "at most", "at least", "apart"} {
		if seen[how] < 500 {
			t.Errorf("only %d pairs were %s", seen[how], how)
		}
	}
}

func relation(a, b []api.Tick) string {
	below, _ := plainLeq(a, b)
	above, _ := plainLeq(b, a)
	switch {
	case below && above:
		return "the same"
	case below:
		return "at most"
	case above:
		return "at least"
	}
	return "apart"
}

// TestDifferAtTwoPlaces: what tells two clocks apart may stand anywhere, and the one part of it long behind the other.
func TestDifferAtTwoPlaces(t *testing.T) {
	const n = 12
	for up := range n {
		for down := range n {
			for _, change := range [][2]int{{1, 2}, {2, 1}, {0, 2}, {2, 0}, {0, 1}, {1, 0}} {
				first, second := map[int]int{}, map[int]int{}
				for g := range n {
					first[3*g], second[3*g] = 1, 1
				}
				first[3*up], second[3*down] = change[0], change[1]
				holdsTwo(t, plainClock(first), plainClock(second))
			}
		}
	}
}

// lattice answers what P17.10 speaks of, of clocks that are good.
type lattice struct{ t *testing.T }

func (l lattice) fine(e api.Errno) {
	l.t.Helper()
	if e != api.OK {
		l.t.Fatalf("P17.10: of good clocks: the error %d", e)
	}
}

func (l lattice) join(a, b []api.Tick) []api.Tick {
	c, e := clock.Join(a, b)
	l.fine(e)
	if !clock.Good(c) {
		l.t.Fatalf("P17.4: Join(%v, %v) = %v, which is not good", a, b, c)
	}
	return c
}

func (l lattice) meet(a, b []api.Tick) []api.Tick {
	c, e := clock.Meet(a, b)
	l.fine(e)
	if !clock.Good(c) {
		l.t.Fatalf("P17.5: Meet(%v, %v) = %v, which is not good", a, b, c)
	}
	return c
}

func (l lattice) leq(a, b []api.Tick) bool {
	is, e := clock.Leq(a, b)
	l.fine(e)
	return is
}

// holds tells which law is broken, and by which clocks.
func (l lattice) holds(law string, is bool, clocks ...[]api.Tick) {
	l.t.Helper()
	if !is {
		l.t.Fatalf("P17.10: %s: %v", law, clocks)
	}
}

func (l lattice) lawsOfOne(a []api.Tick) {
	l.holds("each is at most itself", l.leq(a, a), a)
	l.holds("Join with itself", slices.Equal(l.join(a, a), a), a)
	l.holds("Meet with itself", slices.Equal(l.meet(a, a), a), a)
	l.holds("the empty clock is at most each", l.leq(nil, a) && l.leq(a, nil) == (len(a) == 0), a)
}

func (l lattice) lawsOfTwo(a, b []api.Tick) {
	joined, met, leq := l.join(a, b), l.meet(a, b), l.leq(a, b)
	l.holds("two that are at most each other are the same", (leq && l.leq(b, a)) == slices.Equal(a, b), a, b)
	l.holds("Join, whichever comes first", slices.Equal(joined, l.join(b, a)), a, b)
	l.holds("Meet, whichever comes first", slices.Equal(met, l.meet(b, a)), a, b)
	l.holds("Join of a and Meet of a and b", slices.Equal(l.join(a, met), a), a, b)
	l.holds("Meet of a and Join of a and b", slices.Equal(l.meet(a, joined), a), a, b)
	l.holds("at most, just if Join is b", leq == slices.Equal(joined, b), a, b)
	l.holds("at most, just if Meet is a", leq == slices.Equal(met, a), a, b)
	apart, e := clock.Apart(a, b)
	l.holds("apart, just if neither is at most the other", e == api.OK && apart == (!leq && !l.leq(b, a)), a, b)
}

func (l lattice) lawsOfThree(a, b, c []api.Tick) {
	joined, met := l.join(a, b), l.meet(a, b)
	l.holds("at most something that is at most a third one", !l.leq(a, b) || !l.leq(b, c) || l.leq(a, c), a, b, c)
	l.holds("Join of three", slices.Equal(l.join(joined, c), l.join(a, l.join(b, c))), a, b, c)
	l.holds("Meet of three", slices.Equal(l.meet(met, c), l.meet(a, l.meet(b, c))), a, b, c)
	l.holds("Join is at most c, just if both are", l.leq(joined, c) == (l.leq(a, c) && l.leq(b, c)), a, b, c)
	l.holds("c is at most Meet, just if it is at most both", l.leq(c, met) == (l.leq(c, a) && l.leq(c, b)), a, b, c)
	l.holds("Meet over Join", slices.Equal(l.meet(a, l.join(b, c)), l.join(met, l.meet(a, c))), a, b, c)
}

func (l lattice) laws(clocks [][]api.Tick) {
	for _, a := range clocks {
		l.lawsOfOne(a)
		for _, b := range clocks {
			l.lawsOfTwo(a, b)
			for _, c := range clocks {
				l.lawsOfThree(a, b, c)
			}
		}
	}
}

func TestLattice(t *testing.T) {
	lattice{t}.laws(smallClocks(0, 1, 2))
	lattice{t}.laws(append(smallClocks(0, math.MaxInt), goodLists()...))
}

func TestLatticeOfMany(t *testing.T) {
	r := rand.New(rand.NewSource(173))
	for range 300 {
		below := []int{1, 5, 40, maxG}[r.Intn(4)]
		a, b := someClock(r.Intn, r.Intn(30), below), someClock(r.Intn, r.Intn(30), below)
		l := lattice{t}
		l.laws([][]api.Tick{a, b, near(r.Intn, a, below), near(r.Intn, b, below), l.join(a, b), l.meet(a, b)})
	}
}
