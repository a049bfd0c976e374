package order_test

import (
	"math/rand"
	"slices"
	"testing"
	"time"

	"hindsight/api"
	"hindsight/order"
)

const (
	maxEvents = api.MaxEvents
	maxG      = api.MaxG
)

// forks are those of all goroutines but 0, by goroutine 0.
func forks(goroutines int) []api.Event {
	var run []api.Event
	for g := 1; g < goroutines; g++ {
		run = append(run, ev(0, api.Fork, 0, uint64(g)))
	}
	return run
}

// inTime fails if a test of a large run took much longer than it needs.
func inTime(t *testing.T, begun time.Time) {
	t.Helper()
	if took := time.Since(begun); took > 150*time.Second {
		t.Errorf("P0.1: it took %v", took)
	}
}

// TestForkAllJoinAll: all goroutines that there are; at the end one clock has them all.
func TestForkAllJoinAll(t *testing.T) {
	defer inTime(t, time.Now())
	run := forks(maxG)
	const marks, joins = maxG - 1, 2 * (maxG - 1)
	for g := 1; g < maxG; g++ {
		run = append(run, ev(g, api.Mark, 0, 0))
	}
	for g := 1; g < maxG; g++ {
		run = append(run, ev(0, api.Join, 0, uint64(g)))
	}
	o := asked{t, build(t, run)}
	o.into(joins, marks-1, marks)
	o.chain(0, joins, 0, marks, joins)
	for _, g := range []int{2, 15, 16, 17, 32767, 32768, maxG - 2, maxG - 1} {
		o.clock(marks+g-1, api.Tick{G: 0, T: g}, api.Tick{G: g, T: 1})
		o.into(marks+g-1, g-1)
		o.into(joins+g-1, marks+g-1, joins+g-2)
		o.before(marks+g-1, joins+g-1, true)
		o.before(marks+g-1, joins+g-2, false)
		o.chain(g-1, joins+g-1, append(between(g-1, marks-1), between(joins, joins+g-1)...)...)
	}
	last, fault := o.Clock(len(run) - 1)
	if len(last) != maxG || fault != api.OK || last[0] != (api.Tick{G: 0, T: 2 * (maxG - 1)}) {
		t.Fatalf("P18.2: the last clock has %d goroutines, %d", len(last), fault)
	}
	for g, x := range last[1:] {
		if x != (api.Tick{G: g + 1, T: 1}) {
			t.Fatalf("P18.2: the last clock says %v", x)
		}
	}
}

// between are all places from one to another.
func between(from, to int) []int {
	var list []int
	for i := from; i <= to; i++ {
		list = append(list, i)
	}
	return list
}

// TestDaisyChain: a value goes through all goroutines; each one's clock has all those ahead of it.
func TestDaisyChain(t *testing.T) {
	defer inTime(t, time.Now())
	run := forks(maxG)
	for g := 1; g < maxG; g++ {
		run = append(run, ev(0, api.Make, uint64(g), 1))
	}
	marks := len(run)
	for g := 1; g < maxG; g++ {
		run = append(run, ev(g, api.Mark, 0, 0))
	}
	first := len(run)
	run = append(run, ev(0, api.Send, 1, 0))
	for g := 1; g < maxG; g++ {
		run = append(run, ev(g, api.Recv, uint64(g), 1))
		if g < maxG-1 {
			run = append(run, ev(g, api.Send, uint64(g+1), 0))
		}
	}
	end := len(run) - 1
	o := asked{t, build(t, run)}
	o.chain(first, end, between(first, end)...)
	o.chain(0, end, append(between(0, marks-1), between(first, end)...)...)
	for g := 1; g < maxG; g++ {
		o.into(first+2*g-1, marks+g-1, first+2*g-2) // of the Recv
		if g > 1 {
			o.into(first+2*g-2, first+2*g-3) // of the Send ahead of it
		}
	}
	o.into(first, marks-1)
	o.before(first, end, true)
	o.before(end, first, false)
	last, _ := o.Clock(end)
	if len(last) != maxG || last[0].T != marks+1 || last[maxG-2] != (api.Tick{G: maxG - 2, T: 3}) || last[maxG-1].T != 2 {
		t.Errorf("P18.2: the last clock has %d goroutines", len(last))
	}
}

// TestManySwaps: as many events as there may be, each one knows all ahead of it.
func TestManySwaps(t *testing.T) {
	defer inTime(t, time.Now())
	for _, goroutines := range []int{2, 100, maxG} {
		run := forks(goroutines)
		first := len(run)
		for k := 0; len(run) < maxEvents; k++ {
			run = append(run, ev(k%goroutines, api.Swap, 9, 0))
		}
		o, r := asked{t, build(t, run)}, rand.New(rand.NewSource(1804))
		for j := first + goroutines; j < maxEvents; j += 1 + r.Intn(maxG/goroutines)%50 {
			o.into(j, j-1)
			if j%20 == 0 {
				o.before(r.Intn(j), j, true)
				o.before(j, r.Intn(j+1), false)
			}
		}
		o.chain(first, maxEvents-1, between(first, maxEvents-1)...)
		last, _ := o.Clock(maxEvents - 1)
		all := 0
		for _, x := range last {
			all += x.T
		}
		if len(last) != goroutines || all != maxEvents {
			t.Errorf("P18.2: the last clock has %d goroutines, %d events", len(last), all)
		}
	}
}

// TestManyStores: nothing is known among those who store; who loads knows the last one of each.
func TestManyStores(t *testing.T) {
	defer inTime(t, time.Now())
	const goroutines = maxG / 2
	run := forks(maxG)
	first := len(run)
	for g := 1; g < goroutines; g++ {
		run = append(run, ev(g, api.Store, 9, 0))
	}
	behind := len(run)
	for g := goroutines; g < maxG; g++ {
		run = append(run, ev(g, api.Load, 9, 0))
	}
	for range 3 * goroutines {
		run = append(run, ev(0, api.Load, 9, 0))
	}
	o := asked{t, build(t, run)}
	stores := between(first, behind-1)
	for _, j := range []int{behind, behind + 1, behind + 1000, behind + maxG - goroutines - 1} {
		o.into(j, append([]int{j - behind + goroutines - 1}, stores...)...) // and its Fork
	}
	last := behind + maxG - goroutines
	o.into(last, between(first-1, behind-1)...) // and its last Fork
	for j := last + 1; j < len(run); j++ {
		o.into(j, j-1)
	}
	o.chain(first, len(run)-1, append([]int{first}, between(last, len(run)-1)...)...)
	o.before(first, first+1, false)
	o.before(behind, behind+1, false)
}

// TestWhoKnowsMuch: one that knows of all goroutines learns, again and again, a little from one that knows
// nearly nothing.
func TestWhoKnowsMuch(t *testing.T) {
	defer inTime(t, time.Now())
	run := forks(maxG)
	for g := 1; g < maxG; g++ {
		run = append(run, ev(g, api.Store, 9, 0))
	}
	run = append(run, ev(0, api.Load, 9, 0))
	first := len(run)
	for k := 0; len(run) < maxEvents-1; k++ {
		run = append(run, ev(1+k%5, api.Store, 8, 0), ev(0, api.Load, 8, 0))
	}
	o := asked{t, build(t, run)}
	for j := first + 1; j < len(run); j += 2 {
		o.into(j, j-2, j-1)
		o.before(j-1, j, true)
		o.before(j-1, j-2, false)
	}
}

// TestPipeline: many values through many goroutines, with room for few.
func TestPipeline(t *testing.T) {
	defer inTime(t, time.Now())
	const goroutines, values = 400, 200
	run := forks(goroutines)
	for g := 1; g < goroutines; g++ {
		run = append(run, ev(0, api.Make, uint64(g), 1))
	}
	first := len(run)
	for range values {
		run = append(run, ev(0, api.Send, 1, 0))
		for g := 1; g < goroutines; g++ {
			run = append(run, ev(g, api.Recv, uint64(g), 1))
			if g < goroutines-1 {
				run = append(run, ev(g, api.Send, uint64(g+1), 0))
			}
		}
	}
	const one = 2 * (goroutines - 1) // events of one value
	o := asked{t, build(t, run)}
	for value := 1; value < values; value++ {
		from := first + value*one
		o.into(from, from-one+1) // the Recv that made room, of what it sent ahead
		o.before(from-one+1, from, true)
		o.before(from-one+2, from, false)
		for k := 2; k < one-1; k += 2 { // of a Send: its own Recv ahead, and the one that made room
			o.into(from+k, from-one+k+1, from+k-1)
		}
	}
	var chain []int
	for value := range values - 1 {
		chain = append(chain, first+value*one, first+value*one+1)
	}
	o.chain(first, len(run)-1, append(chain, between(first+(values-1)*one, len(run)-1)...)...)
}

// TestTrackerOfMany: a tracker of all goroutines, whose clocks are small; and of few, over many events.
func TestTrackerOfMany(t *testing.T) {
	defer inTime(t, time.Now())
	r := order.New()
	add := func(e api.Event, want ...api.Tick) {
		t.Helper()
		if c, fault := r.Add(e); !slices.Equal(c, want) || fault != api.OK {
			t.Fatalf("P18.6: Add(%v) = %v, %d, want %v", e, c, fault, want)
		}
	}
	for g := 1; g < maxG; g++ {
		add(ev(0, api.Fork, 0, uint64(g)), api.Tick{G: 0, T: g})
	}
	for g := maxG - 1; g > 0; g-- {
		add(ev(g, api.Store, uint64(g), 0), api.Tick{G: 0, T: g}, api.Tick{G: g, T: 1})
	}
	for g := 1; g < maxG-1; g++ {
		add(ev(g, api.Load, uint64(g+1), 0), api.Tick{G: 0, T: g + 1}, api.Tick{G: g, T: 2}, api.Tick{G: g + 1, T: 1})
	}
	r = order.New()
	add(fork1, api.Tick{G: 0, T: 1})
	for k := 2; 2*k < maxEvents; k++ {
		add(ev(0, api.Swap, 9, 0), slices.Concat([]api.Tick{{G: 0, T: k}}, []api.Tick{{G: 1, T: k - 2}}[:min(1, k-2)])...)
		add(ev(1, api.Swap, 9, 0), api.Tick{G: 0, T: k}, api.Tick{G: 1, T: k - 1})
	}
}
