package clock

import (
	"slices"
	"testing"

	"hindsight/api"
)

// step is what both hands out at a time.
type step struct {
	g int
	t times
}

// upTo are the steps of two clocks until so many are there.
func upTo(n int, a, b []api.Tick) []step {
	var steps []step
	for g, t := range both(a, b) {
		steps = append(steps, step{g, t})
		if len(steps) == n {
			break
		}
	}
	return steps
}

// TestBoth: each goroutine of either clock once, rising; and a loop may leave at each of them.
func TestBoth(t *testing.T) {
	last := api.MaxG - 1
	for _, c := range []struct {
		a, b []api.Tick
		want []step
	}{
		{nil, nil, nil},
		{[]api.Tick{{G: 3, T: 7}}, nil, []step{{3, times{7, 0}}}},
		{nil, []api.Tick{{G: last, T: 7}}, []step{{last, times{0, 7}}}},
		{
			[]api.Tick{{G: 0, T: 5}, {G: 2, T: 1}, {G: last, T: 4}}, []api.Tick{{G: 1, T: 1}, {G: 2, T: 3}, {G: 9, T: 2}},
			[]step{{0, times{5, 0}}, {1, times{0, 1}}, {2, times{1, 3}}, {9, times{0, 2}}, {last, times{4, 0}}},
		},
	} {
		for n := range c.want {
			if got := upTo(n+1, c.a, c.b); !slices.Equal(got, c.want[:n+1]) {
				t.Errorf("both(%v, %v), left behind %d: %v, want %v", c.a, c.b, n+1, got, c.want[:n+1])
			}
		}
		if got := upTo(-1, c.a, c.b); !slices.Equal(got, c.want) {
			t.Errorf("both(%v, %v) = %v, want %v", c.a, c.b, got, c.want)
		}
		again := both(c.a, c.b)
		for range 2 { // gone through anew each time, not on from where the last loop left it
			var got []step
			for g, t := range again {
				got = append(got, step{g, t})
			}
			if !slices.Equal(got, c.want) {
				t.Errorf("both(%v, %v), again: %v, want %v", c.a, c.b, got, c.want)
			}
		}
	}
}
