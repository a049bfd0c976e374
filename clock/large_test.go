package clock_test

import (
	"math"
	"slices"
	"testing"

	"hindsight/api"
	"hindsight/clock"
)

// full has every goroutine, each with the time that a function says.
func full(time func(g int) int) []api.Tick {
	c := make([]api.Tick, maxG)
	for g := range c {
		c[g] = api.Tick{G: g, T: time(g)}
	}
	return c
}

// some are the elements of a clock whose goroutines are chosen.
func some(c []api.Tick, chosen func(g int) bool) []api.Tick {
	return slices.DeleteFunc(slices.Clone(c), func(x api.Tick) bool { return !chosen(x.G) })
}

// TestLargest: clocks of as many goroutines as there may be.
func TestLargest(t *testing.T) {
	a := full(func(g int) int { return 1 + g%9 })
	b := full(func(g int) int { return math.MaxInt - g%5 })
	even, odd := some(a, func(g int) bool { return g%2 == 0 }), some(a, func(g int) bool { return g%2 == 1 })
	for _, c := range [][]api.Tick{a, b, even, odd} {
		holdsOne(t, c, []int{-1, 0, maxG - 1, maxG}, []int{0, math.MaxInt})
		for _, d := range [][]api.Tick{nil, b, odd, a[maxG-1:], c[1:]} {
			holdsTwo(t, c, d)
			holdsTwo(t, d, c)
		}
	}
	if joined, e := clock.Join(even, odd); e != api.OK || !slices.Equal(joined, a) {
		t.Errorf("P17.4: Join of the even ones and the odd ones is not all, %d", e)
	}
	if met, e := clock.Meet(even, odd); e != api.OK || len(met) > 0 {
		t.Errorf("P17.5: Meet of the even ones and the odd ones has %d elements, %d", len(met), e)
	}
}

// TestOneTooMany: bytes of the largest clock with an element more.
func TestOneTooMany(t *testing.T) {
	b, _ := clock.Encode(full(func(int) int { return 1 }))
	if want := 3 + 2*maxG; len(b) != want {
		t.Fatalf("P17.7: %d bytes, want %d", len(b), want)
	}
	holdsDecode(t, b)
	b = append(b, 0, 1)
	if _, e := clock.Decode(b); e != api.ErrClock {
		t.Errorf("P17.8: with bytes left behind: %d", e)
	}
	b[0]++
	if _, e := clock.Decode(b); e != api.ErrClock {
		t.Errorf("P17.8: with 65537 elements: %d", e)
	}
	list := append(full(func(int) int { return 1 }), api.Tick{G: maxG, T: 1})
	if clock.Good(list) {
		t.Errorf("P17.1: 65537 elements are good")
	}
}

// TestManyLargest: the work grows with the length of the clocks, not with its square.
func TestManyLargest(t *testing.T) {
	a := full(func(g int) int { return 1 + g%9 })
	c := a
	for k := range 100 {
		c, _ = clock.Set(c, k*211%maxG, 0)
		c, _ = clock.Join(c, a[k:k+1])
		if is, _ := clock.Leq(c, a); !is {
			t.Fatalf("P17.6: at the step %d Leq is false", k)
		}
		if is, _ := clock.Apart(c, a); is {
			t.Fatalf("P17.6: at the step %d Apart is true", k)
		}
		c, _ = clock.Meet(a, c)
		b, _ := clock.Encode(c)
		if again, e := clock.Decode(b); e != api.OK || !slices.Equal(again, c) {
			t.Fatalf("P17.9: at the step %d another clock was read, %d", k, e)
		}
	}
}
