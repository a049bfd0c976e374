package clock

import (
	"iter"

	"hindsight/api"
)

// times are those of one goroutine in two clocks.
type times struct{ first, second int }

// both goes through the goroutines of two good clocks, rising, with both times of each.
func both(a, b []api.Tick) iter.Seq2[int, times] {
	return func(yield func(int, times) bool) {
		restA, restB := a, b
		for len(restA) > 0 || len(restB) > 0 {
			g := min(lowest(restA), lowest(restB))
			var t times
			t.first, restA = take(restA, g)
			t.second, restB = take(restB, g)
			if !yield(g, t) {
				return
			}
		}
	}
}

// lowest is the first goroutine of a clock; of an empty one a number above them all, as any other comes first.
func lowest(c []api.Tick) int {
	if len(c) == 0 {
		return api.MaxG
	}
	return c[0].G
}

// take answers a goroutine's time in a clock that has none below it, and what of the clock lies behind it.
func take(c []api.Tick, g int) (int, []api.Tick) {
	if lowest(c) != g {
		return 0, c
	}
	return c[0].T, c[1:]
}

// Join is the least clock that is not below either.
func Join(a, b []api.Tick) ([]api.Tick, api.Errno) {
	if !Good(a) || !Good(b) {
		return nil, api.ErrClock
	}
	joined := make([]api.Tick, 0, max(len(a), len(b)))
	for g, t := range both(a, b) {
		joined = put(joined, g, max(t.first, t.second))
	}
	return joined, api.OK
}

// Meet is the greatest clock that is not above either.
func Meet(a, b []api.Tick) ([]api.Tick, api.Errno) {
	if !Good(a) || !Good(b) {
		return nil, api.ErrClock
	}
	met := make([]api.Tick, 0, min(len(a), len(b)))
	for g, t := range both(a, b) {
		met = put(met, g, min(t.first, t.second))
	}
	return met, api.OK
}

// Leq tells whether no time of a is above b's.
func Leq(a, b []api.Tick) (bool, api.Errno) {
	if !Good(a) || !Good(b) {
		return false, api.ErrClock
	}
	for _, t := range both(a, b) {
		if t.first > t.second {
			return false, api.OK
		}
	}
	return true, api.OK
}

// Apart tells whether neither is below the other.
func Apart(a, b []api.Tick) (bool, api.Errno) {
	if !Good(a) || !Good(b) {
		return false, api.ErrClock
	}
	above, below := false, false
	for _, t := range both(a, b) {
		above = above || t.first > t.second
		below = below || t.first < t.second
		if above && below {
			return true, api.OK
		}
	}
	return false, api.OK
}
