package order_test

import (
	"math/rand"
	"slices"
	"testing"

	"hindsight/api"
	"hindsight/clock"
	"hindsight/order"
)

// TestOrderLaws: to happen before is an order, that of the clocks, and each goroutine's events stand in it.
func TestOrderLaws(t *testing.T) {
	r := rand.New(rand.NewSource(185))
	for range 150 {
		run := someRun(r, 60)
		o := build(t, run)
		before := func(i, j int) bool {
			is, _ := o.Before(i, j)
			return is
		}
		for i := range run {
			for j := range run {
				a, _ := o.Clock(i)
				b, _ := o.Clock(j)
				below, fault := clock.Leq(a, b)
				if fault != api.OK || before(i, j) != (i != j && below) {
					t.Fatalf("P18.7: of %v: Before(%d, %d) = %t, the clocks %v, %v", run, i, j, before(i, j), a, b)
				}
				if before(i, j) && i >= j || run[i].G == run[j].G && before(i, j) != (i < j) {
					t.Fatalf("P18.7: of %v: Before(%d, %d) = %t", run, i, j, before(i, j))
				}
				for k := range run {
					if before(i, j) && before(j, k) && !before(i, k) {
						t.Fatalf("P18.7: of %v: %d happens before %d, this before %d", run, i, j, k)
					}
				}
			}
		}
	}
}

// TestChainsAreSteps: a chain rises from its first event to its last, each a step behind the one ahead of
// it, and right behind it in the order.
func TestChainsAreSteps(t *testing.T) {
	r := rand.New(rand.NewSource(186))
	long := 0
	for range 60 {
		run := someRun(r, 50)
		p, o := newPlain(run), build(t, run)
		for i := range run {
			for j := range run {
				chain, _ := o.Chain(i, j)
				if is, _ := o.Before(i, j); (is || i == j) != (len(chain) > 0) {
					t.Fatalf("P18.5: of %v: Chain(%d, %d) = %v", run, i, j, chain)
				}
				if len(chain) > 0 && (chain[0] != i || chain[len(chain)-1] != j) {
					t.Fatalf("P18.5: of %v: Chain(%d, %d) = %v", run, i, j, chain)
				}
				for k := 1; k < len(chain); k++ {
					into, _ := o.Into(chain[k])
					if !p.step(chain[k-1], chain[k]) || !slices.Contains(into, chain[k-1]) {
						t.Fatalf("P18.5: of %v: Chain(%d, %d) = %v, from %d to %d is no step", run, i, j, chain, chain[k-1], chain[k])
					}
				}
				long = max(long, len(chain))
			}
		}
	}
	if long < 10 {
		t.Errorf("the test met chains of up to %d events only", long)
	}
}

// TestBeginnings: the order of a run's first events is that of the run.
func TestBeginnings(t *testing.T) {
	r := rand.New(rand.NewSource(187))
	for range 40 {
		run := someRun(r, 30)
		whole := build(t, run)
		for n := range len(run) + 1 {
			o := build(t, run[:n])
			if !slices.EqualFunc(hear(o).clocks, hear(whole).clocks[:n], slices.Equal) || !slices.EqualFunc(hear(o).into, hear(whole).into[:n], slices.Equal) {
				t.Fatalf("P18.8: of %v the order of the first %d is another one", run, n)
			}
			for i := range n {
				for j := range n {
					a, _ := o.Chain(i, j)
					b, _ := whole.Chain(i, j)
					if !slices.Equal(a, b) {
						t.Fatalf("P18.8: of %v, the first %d: Chain(%d, %d) = %v, in the whole %v", run, n, i, j, a, b)
					}
				}
			}
		}
	}
}

// TestRefusedChangesNothing: a tracker that is asked for much that it refuses says the same as one that is
// not.
func TestRefusedChangesNothing(t *testing.T) {
	r := rand.New(rand.NewSource(188))
	refused := map[api.Errno]int{}
	for range 300 {
		run := someRun(r, 50)
		asked, want := order.New(), hear(build(t, run)).clocks
		for k, e := range run {
			for range 10 {
				other := someMove(r)
				_, _, want := order.Build(append(slices.Clone(run[:k]), other))
				if want == api.OK {
					continue
				}
				refused[want]++
				if c, fault := asked.Add(other); len(c) != 0 || fault != want {
					t.Fatalf("P18.6: behind %v: Add(%v) = %v, %d, want %d", run[:k], other, c, fault, want)
				}
			}
			if c, fault := asked.Add(e); !slices.Equal(c, want[k]) || fault != api.OK {
				t.Fatalf("P18.6: of %v: Add of %d = %v, %d, want %v", run, k, c, fault, want[k])
			}
		}
	}
	if refused[api.ErrBad] < 1000 || refused[api.ErrKind] < 100 || refused[api.ErrG] < 100 {
		t.Errorf("the test met the errors %v", refused)
	}
}

// someMove is any event, now and then one that may not be.
func someMove(r *rand.Rand) api.Event {
	e := ev(r.Intn(4), 1+r.Intn(22), uint64(r.Intn(3)), 0)
	switch r.Intn(10) {
	case 0:
		e.Kind = 23
	case 1:
		e.G = -1
	case 2, 3, 4, 5:
		e.Arg = uint64(1 + r.Intn(3))
	}
	if e.Kind == api.Fork || e.Kind == api.Join {
		e.Obj = 0
	}
	return e
}
