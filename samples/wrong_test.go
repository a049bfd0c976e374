package samples_test

import (
	"slices"
	"testing"

	"hindsight/api"
	"hindsight/check"
	"hindsight/event"
	"hindsight/samples"
)

var fork = api.Event{Kind: api.Fork, Arg: 1}

// TestFaults: tests lean on it that each event has its error, and that there are all errors among them.
func TestFaults(t *testing.T) {
	seen := samples.Seen{}
	for _, f := range samples.Faults() {
		seen[f.Errno]++
		if got := event.Check(f.Event); got != f.Errno {
			t.Errorf("Check(%v) = %d, want %d", f.Event, got, f.Errno)
		}
	}
	if len(seen) != 5 || samples.Faults()[0].Errno != api.ErrKind {
		t.Errorf("the errors are %v", seen)
	}
}

// TestNoRuns: tests lean on it that just the last event can't come, and that each reason is there.
func TestNoRuns(t *testing.T) {
	list := samples.NoRuns()
	for k, trace := range list {
		trace = append([]api.Event{fork}, trace...)
		if place, reason, fault := check.Run(trace); place != len(trace)-1 || reason != k+1 || fault != api.OK {
			t.Errorf("Run(%v) = %d, %d, %d", trace, place, reason, fault)
		}
	}
	if len(list) != 28 {
		t.Errorf("there are %d traces", len(list))
	}
}

// TestWalk: all runs of some moves, none twice; shorter ones where nothing can come.
func TestWalk(t *testing.T) {
	take, give := api.Event{Kind: api.Acquire}, api.Event{Kind: api.Release}
	kinds := func(depth int, moves ...api.Event) [][]int {
		var list [][]int
		n := samples.Walk([]api.Event{fork}, depth, moves, func(run []api.Event) {
			var kinds []int
			for _, e := range run {
				kinds = append(kinds, e.Kind)
			}
			list = append(list, kinds)
		})
		if n != len(list) {
			t.Errorf("Walk = %d, it went over %d", n, len(list))
		}
		return list
	}
	for _, c := range []struct {
		got, want [][]int
	}{
		{kinds(0, take), [][]int{{7}}},
		{kinds(5, take), [][]int{{7, 3}}},
		{kinds(3, take, give), [][]int{{7, 3, 4, 3}}},
		{kinds(2, give, api.Event{Kind: api.Mark}, take), [][]int{{7, 22, 22}, {7, 22, 3}, {7, 3, 4}, {7, 3, 22}}},
	} {
		if !slices.EqualFunc(c.got, c.want, slices.Equal) {
			t.Errorf("the runs are %v, want %v", c.got, c.want)
		}
	}
}

func TestEach(t *testing.T) {
	got := samples.Each(2, api.Event{Kind: api.Mark}, api.Event{G: 9, Kind: api.Load})
	want := []api.Event{{Kind: api.Mark}, {Kind: api.Load}, {G: 1, Kind: api.Mark}, {G: 1, Kind: api.Load}}
	if !slices.EqualFunc(got, want, event.Same) {
		t.Errorf("Each = %v", got)
	}
}

// TestMoved: tests lean on it that what was moved is a run as it was, that the same accesses have bytes in
// common, and that bytes lie at both ends of memory.
func TestMoved(t *testing.T) {
	least, most := 0, 0
	for size := range 5 {
		for base := range 7 {
			picks, next := []int{size, base}, 0
			var run []api.Event
			for from := range uint64(7) {
				for bytes := uint64(1); bytes < 5; bytes++ {
					run = append(run, api.Event{Kind: api.Write, Obj: from, Arg: bytes})
				}
			}
			run = append(run, api.Event{Kind: api.Alloc, Obj: 3, Arg: 4}, api.Event{Kind: api.Free, Obj: 3, Arg: 4}, api.Event{Kind: api.Acquire, Obj: 3})
			moved := samples.Moved(func(int) int { next++; return picks[next-1] }, run)
			if at, _, fault := check.Run(moved); at != -1 || fault != api.OK || moved[len(moved)-1].Obj != 3 {
				t.Fatalf("%v is no run: %d, %d", moved, at, fault)
			}
			for k, a := range moved {
				for n, b := range moved {
					if event.Clash(a, b) != event.Clash(run[k], run[n]) {
						t.Fatalf("%v became %v, and %v %v", run[k], a, run[n], b)
					}
				}
				if _, last, _, is := event.Access(a); is && a.Obj == 0 {
					least++
				} else if is && last == 1<<64-1 {
					most++
				}
			}
		}
	}
	if least == 0 || most == 0 {
		t.Errorf("at the ends of memory: %d, %d", least, most)
	}
}
