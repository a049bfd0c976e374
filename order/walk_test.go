package order_test

import (
	"math/rand"
	"slices"
	"testing"

	"hindsight/api"
	"hindsight/check"
	"hindsight/samples"
)

var (
	fork1 = ev(0, api.Fork, 0, 1)
	fork2 = ev(0, api.Fork, 0, 2)
	fork3 = ev(0, api.Fork, 0, 3)
	join1 = ev(0, api.Join, 0, 1)
	mark  = ev(0, api.Mark, 0, 0)
)

// of are events of a kind, with the number 0: one for each goroutine and argument.
func of(kind int, gs []int, args ...uint64) []api.Event {
	var list []api.Event
	for _, g := range gs {
		for _, arg := range args {
			list = append(list, ev(g, kind, 0, arg))
		}
	}
	return list
}

// walk holds all runs of so many moves behind a beginning; and shorter ones, behind which no move can come.
// It answers how many runs there were.
func walk(t *testing.T, beginning []api.Event, depth int, moves ...[]api.Event) int {
	t.Helper()
	runs, all := 0, slices.Concat(moves...)
	var from func(run []api.Event, left int)
	from = func(run []api.Event, left int) {
		gone := false
		for _, e := range all {
			more := append(slices.Clip(run), e)
			if at, _, _ := check.Run(more); left > 0 && at == -1 {
				gone = true
				from(more, left-1)
			}
		}
		if !gone {
			holds(t, run)
			runs++
		}
	}
	from(beginning, depth)
	return runs
}

var (
	two   = []int{0, 1}
	three = []int{0, 1, 2}
)

// saw fails if there were fewer runs than a test is to see.
func saw(t *testing.T, runs, least int) {
	t.Helper()
	if runs < least {
		t.Errorf("the test met %d runs only", runs)
	}
}

func TestAllWithGoroutines(t *testing.T) {
	saw(t, walk(t, nil, 6, of(api.Fork, three, 1, 2), of(api.Join, three, 0, 1, 2), of(api.Mark, three, 0)), 1000)
}

func TestAllWithLocks(t *testing.T) {
	moves := func(gs []int) []api.Event {
		return slices.Concat(of(api.Acquire, gs, 0), of(api.Release, gs, 0), of(api.RAcquire, gs, 0), of(api.RRelease, gs, 0))
	}
	saw(t, walk(t, []api.Event{fork1}, 7, moves(two)), 1000)
	saw(t, walk(t, []api.Event{fork1, fork2}, 5, moves(three)), 1000)
}

// TestAllWithOneChannel: channels of the rooms 0, 1 and 2, and two goroutines.
func TestAllWithOneChannel(t *testing.T) {
	for room, depth := range []int{10, 7, 6} {
		beginning := []api.Event{fork1, ev(1, api.Make, 0, uint64(room))}
		saw(t, walk(t, beginning, depth, of(api.Send, two, 0), of(api.Recv, two, 0, 1), of(api.Ack, two, 0), of(api.Close, two, 0)), 300)
	}
}

// TestAllWithThreeSenders: who sent which value of one channel without room, and who closes it.
func TestAllWithThreeSenders(t *testing.T) {
	senders := []int{1, 2, 3}
	beginning := []api.Event{fork1, fork2, fork3, ev(0, api.Make, 0, 0)}
	saw(t, walk(t, beginning, 7, of(api.Send, senders, 0), of(api.Ack, senders, 0), of(api.Recv, []int{0}, 1)), 300)
}

// TestAllWithTwoReceivers: who made room for whom, in channels of the rooms 1 and 2.
func TestAllWithTwoReceivers(t *testing.T) {
	for room := range uint64(2) {
		beginning := []api.Event{fork1, fork2, ev(0, api.Make, 0, room+1)}
		saw(t, walk(t, beginning, 11, of(api.Send, []int{0}, 0), of(api.Recv, []int{1, 2}, 1)), 30)
	}
}

func TestAllWithWaitGroups(t *testing.T) {
	const less, none, more = 1, 0, 2
	saw(t, walk(t, []api.Event{fork1, ev(0, api.Add, 0, 2*more)}, 5, of(api.Add, two, less, none, more), of(api.Wait, two, 0)), 1000)
}

func TestAllWithOnces(t *testing.T) {
	saw(t, walk(t, []api.Event{fork1, fork2}, 4, of(api.Once, three, 0, 1), of(api.Mark, three, 0)), 300)
}

func TestAllWithAtomics(t *testing.T) {
	saw(t, walk(t, []api.Event{fork1}, 5, of(api.Load, two, 0), of(api.Store, two, 0), of(api.Swap, two, 0)), 1000)
	saw(t, walk(t, []api.Event{fork1, fork2}, 4, of(api.Load, three, 0), of(api.Store, three, 0), of(api.Swap, three, 0)), 1000)
}

// TestRandomRuns: runs of all kinds, and of some kinds that go well together.
func TestRandomRuns(t *testing.T) {
	r := rand.New(rand.NewSource(181))
	pairs, into := 0, map[int]int{}
	for round := range 700 {
		run := samples.Run(r.Intn, r.Intn(60), 2+r.Intn(5), samples.Focus()[round%len(samples.Focus())]...)
		p := holds(t, run)
		for j := range run {
			into[len(p.into(j))]++
			for i := range j {
				if !p.before[i][j] {
					pairs++
				}
			}
		}
	}
	if pairs < 10000 || into[0] < 100 || into[1] < 1000 || into[2] < 1000 || into[3] < 30 || into[4] == 0 {
		t.Errorf("the test met %d pairs that nothing orders, and so many events right before one: %v", pairs, into)
	}
}

// TestManyGoroutines: runs with up to a hundred goroutines, of any numbers, some of them next to each other.
func TestManyGoroutines(t *testing.T) {
	r := rand.New(rand.NewSource(189))
	most := 0
	for round := range 28 {
		run := samples.Run(r.Intn, 50+r.Intn(200), 10+r.Intn(90), samples.Focus()[round%len(samples.Focus())]...)
		p := holds(t, renumbered(run, r))
		for i := range run {
			most = max(most, len(p.clock(i)))
		}
	}
	if most < 20 {
		t.Errorf("the test met clocks of up to %d goroutines only", most)
	}
}

// renumbered gives each goroutine but 0 another number.
func renumbered(run []api.Event, r *rand.Rand) []api.Event {
	numbers := map[int]int{0: 0}
	used := map[int]int{0: 1}
	other := func(g int) int {
		for _, known := numbers[g]; !known; _, known = numbers[g] {
			n := []int{1 + r.Intn(40), 1 + r.Intn(api.MaxG-1), api.MaxG - 1 - r.Intn(40)}[r.Intn(3)]
			if used[n]++; used[n] == 1 {
				numbers[g] = n
			}
		}
		return numbers[g]
	}
	run = slices.Clone(run)
	for k := range run {
		e := &run[k]
		e.G = other(e.G)
		if e.Kind == api.Fork || e.Kind == api.Join {
			e.Arg = uint64(other(int(e.Arg)))
		}
	}
	return run
}
