package check_test

import (
	"math/rand"
	"slices"
	"testing"

	"hindsight/api"
	"hindsight/samples"
)

// walk goes through all runs of at most so many moves behind a beginning, and asks behind each for every
// move; the refused ones of one checker, one after the other. It answers how often each reason came.
func walk(t *testing.T, beginning, moves []api.Event, depth, goroutines int) map[int]int {
	t.Helper()
	seen := map[int]int{}
	var from func(run []api.Event, left int)
	from = func(run []api.Event, left int) {
		p := newPair(t, run...)
		p.look(goroutines)
		for _, e := range moves {
			reason, _ := p.add(e)
			seen[reason]++
			if reason != 0 {
				continue
			}
			if left > 1 {
				from(append(slices.Clip(run), e), left-1)
			} else {
				p.look(goroutines)
			}
			p = newPair(t, run...)
		}
		p.look(goroutines)
	}
	from(beginning, depth)
	return seen
}

// saw fails if one of some reasons came less than so often; 0 stands for what was taken.
func saw(t *testing.T, seen map[int]int, least int, reasons ...int) {
	t.Helper()
	for _, r := range reasons {
		if seen[r] < least {
			t.Errorf("the test met the reason %d %d times only", r, seen[r])
		}
	}
}

// of are events of a kind, one for each goroutine, number and argument.
func of(kind int, gs []int, objs, args []uint64) []api.Event {
	var list []api.Event
	for _, g := range gs {
		for _, obj := range objs {
			for _, arg := range args {
				list = append(list, ev(g, kind, obj, arg))
			}
		}
	}
	return list
}

var (
	zero = []uint64{0}
	two  = []int{0, 1}
)

func TestAllWithGoroutines(t *testing.T) {
	three := []int{0, 1, 2}
	moves := slices.Concat(
		of(api.Fork, three, zero, []uint64{1, 2}), of(api.Join, three, zero, []uint64{0, 1, 2}), of(api.Mark, three, zero, zero))
	saw(t, walk(t, nil, moves, 5, 3), 100, 0, 1, 2, 8, 9, 10, 11)
}

func TestAllWithLocks(t *testing.T) {
	var moves []api.Event
	for kind := api.Acquire; kind <= api.RRelease; kind++ {
		moves = slices.Concat(moves, of(kind, two, zero, zero))
	}
	saw(t, walk(t, []api.Event{fork1}, moves, 7, 2), 100, 0, 4, 5, 6, 7)

	moves = nil
	for kind := api.Acquire; kind <= api.RRelease; kind++ {
		moves = slices.Concat(moves, of(kind, two, []uint64{5, 6}, zero))
	}
	saw(t, walk(t, []api.Event{fork1}, moves, 4, 2), 100, 0, 4, 5, 6, 7)
}

// TestAllWithOneChannel: channels of the rooms 0, 1 and 2, and two goroutines.
func TestAllWithOneChannel(t *testing.T) {
	moves := slices.Concat(of(api.Recv, two, zero, []uint64{0, 1}), []api.Event{join1})
	for _, kind := range []int{api.Send, api.Close, api.Ack} {
		moves = slices.Concat(moves, of(kind, two, zero, zero))
	}
	without := walk(t, []api.Event{fork1, ev(0, api.Make, 0, 0)}, moves, 12, 2)
	saw(t, without, 50, 0, 2, 3, 12, 15, 17, 18, 20, 21, 22)
	for room := range uint64(2) {
		with := walk(t, []api.Event{fork1, ev(0, api.Make, 0, 1+room)}, moves, 7, 2)
		saw(t, with, 100, 0, 2, 15, 16, 17, 18, 19, 21)
	}
}

// TestAllWithTwoChannels: two channels, one without room, by one goroutine or the other.
func TestAllWithTwoChannels(t *testing.T) {
	both := []uint64{8, 9}
	moves := of(api.Recv, two, both, []uint64{1})
	for _, kind := range []int{api.Send, api.Ack} {
		moves = slices.Concat(moves, of(kind, two, both, zero))
	}
	moves = append(moves, ev(0, api.Make, 8, 0), ev(0, api.Make, 9, 1), ev(1, api.Make, 9, 0))
	saw(t, walk(t, []api.Event{fork1}, moves, 7, 2), 100, 0, 3, 13, 14, 16, 17, 21, 22)
}

// TestAllWithThreeSenders: who waits for which value of one channel without room.
func TestAllWithThreeSenders(t *testing.T) {
	three := []int{1, 2, 3}
	moves := slices.Concat(of(api.Send, three, zero, zero), of(api.Ack, three, zero, zero), []api.Event{ev(0, api.Recv, 0, 1), ev(0, api.Close, 0, 0)})
	saw(t, walk(t, []api.Event{fork1, fork2, ev(0, api.Fork, 0, 3), ev(0, api.Make, 0, 0)}, moves, 9, 1), 100, 0, 3, 15, 17, 20, 21, 22)
}

func TestAllWithWaitGroups(t *testing.T) {
	args := []uint64{0, 1, 2, 3, 4294967291, 4294967292, 4294967293, 4294967294}
	moves := slices.Concat(of(api.Add, []int{0}, zero, args), of(api.Wait, []int{0}, zero, zero))
	saw(t, walk(t, nil, moves, 5, 0), 100, 0, 23, 24)

	moves = slices.Concat(of(api.Add, []int{0}, []uint64{3, 4}, []uint64{1, 2}), of(api.Wait, []int{0}, []uint64{3, 4}, zero))
	saw(t, walk(t, nil, moves, 6, 0), 100, 0, 23, 24)
}

func TestAllWithOnces(t *testing.T) {
	moves := of(api.Once, two, []uint64{0, 1}, []uint64{0, 1})
	saw(t, walk(t, []api.Event{fork1}, moves, 5, 1), 100, 0, 25, 26)
}

// TestAllWithMemory: all allocations in a few bytes, at the first addresses, in the middle, at the last.
func TestAllWithMemory(t *testing.T) {
	for _, base := range []uint64{0, 1 << 16, last - 3} {
		objs := []uint64{base, base + 1, base + 2, base + 3}
		moves := slices.Concat(of(api.Alloc, []int{0}, objs, []uint64{1, 2, 3}), of(api.Free, []int{0}, objs, []uint64{1, 2}))
		moves = slices.DeleteFunc(moves, func(e api.Event) bool { return e.Obj > last-(e.Arg-1) })
		saw(t, walk(t, nil, moves, 4, 0), 100, 0, 27, 28)
	}
}

// TestRandomWalks: all kinds, and some of them often; what is refused is asked and left.
func TestRandomWalks(t *testing.T) {
	r := rand.New(rand.NewSource(161))
	seen, together := map[int]int{}, map[[2]int]int{}
	for range 6000 {
		p, kinds, goroutines := newPair(t), focus[r.Intn(len(focus))], 2+r.Intn(4)
		if r.Intn(3) > 0 {
			p.takes(fork1)
		}
		for range 80 {
			e := samples.Move(r.Intn, goroutines, kinds...)
			if list := p.plain.applying(e); len(list) > 1 {
				together[[2]int{list[0], list[1]}]++
			}
			reason, _ := p.add(e)
			seen[reason]++
			if r.Intn(4) == 0 {
				p.look(goroutines)
			}
		}
		p.look(goroutines)
		run(t, p.plain.trace)
	}
	for reason := range 29 {
		saw(t, seen, 20, reason)
	}
	for _, two := range [][2]int{{1, 5}, {1, 9}, {2, 8}, {2, 10}, {2, 14}, {3, 9}, {3, 11}, {3, 14}, {3, 18}, {3, 20}, {14, 17}, {14, 18}, {14, 21}, {15, 16}, {18, 19}} {
		if together[two] == 0 {
			t.Errorf("the test met no event to which the reasons %v apply", two)
		}
	}
}
