package order_test

import (
	"math/rand"
	"slices"
	"testing"
	"unsafe"

	"hindsight/api"
	"hindsight/event"
	"hindsight/order"
	"hindsight/samples"
)

// stacked is a run with a stack at each event, each with spare room behind it.
func stacked(run []api.Event) []api.Event {
	run = slices.Clone(run)
	for k := range run {
		run[k].Stack = append(make([]string, 0, 5), "f", "main")
	}
	return run
}

// said is all that the calls on an order answer.
type said struct {
	clocks [][]api.Tick
	into   [][]int
	chains [][]int
	before []bool
}

func hear(o *order.Order) said {
	var s said
	for j := range o.Len() {
		c, _ := o.Clock(j)
		into, _ := o.Into(j)
		s.clocks, s.into = append(s.clocks, c), append(s.into, into)
		for i := range o.Len() {
			chain, _ := o.Chain(i, j)
			is, _ := o.Before(i, j)
			s.chains, s.before = append(s.chains, chain), append(s.before, is)
		}
	}
	return s
}

func (s said) equal(o said) bool {
	return slices.EqualFunc(s.clocks, o.clocks, slices.Equal) && slices.EqualFunc(s.into, o.into, slices.Equal) &&
		slices.EqualFunc(s.chains, o.chains, slices.Equal) && slices.Equal(s.before, o.before)
}

// spoil writes over all lists, and over the room behind them.
func (s said) spoil() {
	for _, c := range s.clocks {
		samples.Spoil(c, api.Tick{G: 99, T: 99})
	}
	for _, l := range slices.Concat(s.into, s.chains) {
		samples.Spoil(l, 77)
	}
}

func someRun(r *rand.Rand, n int) []api.Event {
	return samples.Run(r.Intn, n, 2+r.Intn(3), samples.Focus()[r.Intn(len(samples.Focus()))]...)
}

// TestAnswersAreNew: what is handed in is not changed and not kept, and answers share nothing.
func TestAnswersAreNew(t *testing.T) {
	r := rand.New(rand.NewSource(182))
	for range 150 {
		run := someRun(r, 25)
		want := hear(build(t, run))
		whole := stacked(append(slices.Clone(run), mark, join1))
		trace, untouched := whole[:len(run)], stacked(append(slices.Clone(run), mark, join1))
		o, other := build(t, trace), build(t, trace)
		for k := range whole {
			if !event.Same(whole[k], untouched[k]) || whole[k].Stack[:5][2] != "" {
				t.Fatalf("P18.9: Build changed the event %d of %v", k, untouched)
			}
			samples.Spoil(whole[k].Stack, "spoilt")
			whole[k] = api.Event{G: 5, Kind: 99}
		}
		first, second := hear(o), hear(o)
		first.spoil()
		if !second.equal(want) || !hear(o).equal(want) || !hear(other).equal(want) {
			t.Fatalf("P18.9: what is answered of %v changes", run)
		}
	}
}

// TestTrackersClocksAreNew: later events change no clock, nor does who writes over one change another.
func TestTrackersClocksAreNew(t *testing.T) {
	r := rand.New(rand.NewSource(183))
	for range 300 {
		run := someRun(r, 60)
		want := hear(build(t, run)).clocks
		tracker, calm := order.New(), order.New()
		var clocks [][]api.Tick
		for k, e := range stacked(run) {
			stack := slices.Clone(e.Stack[:5])
			c, _ := tracker.Add(e)
			if !slices.Equal(e.Stack[:5], stack) {
				t.Fatalf("P18.9: Add changed the stack of %v", e)
			}
			samples.Spoil(e.Stack, "spoilt")
			if !slices.Equal(c, want[k]) {
				t.Fatalf("P18.8: of %v: Add of %d = %v, want %v", run, k, c, want[k])
			}
			samples.Spoil(c, api.Tick{G: 99, T: 99})
			kept, _ := calm.Add(e)
			clocks = append(clocks, kept)
		}
		if !slices.EqualFunc(clocks, want, slices.Equal) {
			t.Fatalf("P18.6: of %v: later events changed a clock: %v, want %v", run, clocks, want)
		}
	}
}

// TestTwoTrackers: they have nothing to do with each other; one that is told another run knows that alone.
func TestTwoTrackers(t *testing.T) {
	r := rand.New(rand.NewSource(184))
	for range 100 {
		runs := [][]api.Event{someRun(r, 40), someRun(r, 40)}
		trackers := []*order.Tracker{order.New(), order.New()}
		want := [][][]api.Tick{hear(build(t, runs[0])).clocks, hear(build(t, runs[1])).clocks}
		for k := range 40 {
			for n, run := range runs {
				if k >= len(run) {
					continue
				}
				if c, fault := trackers[n].Add(run[k]); !slices.Equal(c, want[n][k]) || fault != api.OK {
					t.Fatalf("P0.3: of %v: Add of %d = %v, %d", run, k, c, fault)
				}
			}
		}
	}
}

// TestKeepsNoFrames: frames over bytes that change later, as their maker knows, change no answer.
func TestKeepsNoFrames(t *testing.T) {
	b := []byte("main")
	e := api.Event{Kind: api.Mark, Stack: []string{unsafe.String(&b[0], len(b))}}
	r, o := order.New(), build(t, []api.Event{e, e})
	r.Add(e)
	b[0] = 'x'
	if c, fault := r.Add(e); !slices.Equal(c, []api.Tick{{G: 0, T: 2}}) || fault != api.OK {
		t.Errorf("P0.4: Add = %v, %d", c, fault)
	}
	if is, fault := o.Before(0, 1); !is || fault != api.OK {
		t.Errorf("P0.4: Before = %t, %d", is, fault)
	}
}
