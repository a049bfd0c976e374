package index_test

import (
	"slices"
	"testing"

	"hindsight/api"
	"hindsight/index"
	"hindsight/samples"
)

// adds up what the spots tell: they lie one behind the other, and all that is in the file is counted.
func adds(t *testing.T, x *index.Index, size int, want map[int]int) {
	t.Helper()
	counts := map[int]int{}
	at := 0
	for place, s := range x.Spots() {
		if s.From != at || s.Ord != place || s.To <= s.From {
			t.Fatalf("P12.2: the spot %d is %v, its beginning %d", place, s, at)
		}
		at = s.To
		counts[s.Kind] += s.Count
	}
	if at != size {
		t.Errorf("P12.2: the last spot ends at %d, want %d", at, size)
	}
	for _, kind := range []int{1, 2, 3, 4, 5} {
		if counts[kind] != want[kind] {
			t.Errorf("P12.2: the spots of the kind %d count %d in all, want %d", kind, counts[kind], want[kind])
		}
	}
}

func builds(t *testing.T, trace []api.Event, limit int) (*index.Index, int) {
	t.Helper()
	b := recorded(t, trace, limit)
	x, e := index.Build(b)
	if e != api.OK {
		t.Fatalf("P12.1: Build of the file of %d events = %d", len(trace), e)
	}
	return x, len(b)
}

// TestMostEvents: as many as there may be, in the smallest chunks and in the greatest.
func TestMostEvents(t *testing.T) {
	const n = 1048576
	trace := make([]api.Event, n)
	for k := range trace {
		trace[k] = api.Event{G: k * k % 7, Kind: api.Write, Obj: uint64(k) << 20, Arg: 1, Stack: []string{"f", "main"}[:k%2+1]}
	}
	for _, limit := range []int{64, api.MaxLimit} {
		x, size := builds(t, trace, limit)
		adds(t, x, size, map[int]int{2: 2, 3: 3, 4: n})
		if got, e := x.Read(0, n); e != api.OK || !sameTrace(got, trace) {
			t.Errorf("P12.7: Read of all is not the trace: %d", e)
		}
		for _, lo := range []int{0, 1, n / 3, n - 10} {
			if got, e := x.Read(lo, lo+10); e != api.OK || !sameTrace(got, trace[lo:lo+10]) {
				t.Errorf("P12.4: Read(%d, ..) = %v, %d", lo, got, e)
			}
			if limit == 64 && x.Touched() > 12 {
				t.Errorf("P12.6: ten events out of %d chunks", x.Touched())
			}
		}
		if got, e := x.Read(1, n+1); e != api.ErrRange || len(got) != 0 {
			t.Errorf("P12.4: Read(1, %d) = %d events, %d", n+1, len(got), e)
		}
		all := x.Events(2)
		got, stamps, e := x.Of(2, all-3, 1<<63-1)
		if e != api.OK || len(got) != 3 || !slices.IsSorted(stamps) || trace[stamps[0]].G != 2 || got[0].Obj != trace[stamps[0]].Obj {
			t.Errorf("P12.5: Of(2, %d, ..) = %v, %v, %d", all-3, got, stamps, e)
		}
	}
}

// TestMostGoroutines: an event of each, and for some of them a second one far behind.
func TestMostGoroutines(t *testing.T) {
	var gs []int
	for g := range maxG {
		gs = append(gs, maxG-1-g)
	}
	gs = append(gs, 0, 7, maxG-1)
	trace := marks(gs...)
	x, size := builds(t, trace, 64)
	adds(t, x, size, map[int]int{4: len(trace)})
	if got := x.Goroutines(); len(got) != maxG || !slices.IsSorted(got) || got[0] != 0 || got[maxG-1] != maxG-1 {
		t.Errorf("P12.3: %d goroutines", len(got))
	}
	for g := range maxG {
		stamps := []int{maxG - 1 - g}
		switch g {
		case 0:
			stamps = append(stamps, maxG)
		case 7:
			stamps = append(stamps, maxG+1)
		case maxG - 1:
			stamps = append(stamps, maxG+2)
		}
		if _, got, e := x.Of(g, 0, 9); e != api.OK || !slices.Equal(got, stamps) || x.Events(g) != len(stamps) {
			t.Fatalf("P12.5: Of(%d, 0, 9): the stamps %v, %d, want %v", g, got, e, stamps)
		}
	}
	// Of the goroutine's own chunk, and of those of the three that reach from the first event to the last.
	for k := range maxG {
		got, e := x.Read(k, k+1)
		want := 1
		if k > 0 {
			want++ // that of the last goroutine begins with the first event
		}
		if k > maxG-1-7 {
			want++
		}
		if e != api.OK || len(got) != 1 || got[0].G != maxG-1-k || x.Touched() != want {
			t.Fatalf("P12.6: Read(%d, %d) = %v, %d; touched %d, want %d", k, k+1, got, e, x.Touched(), want)
		}
	}
}

// TestMostStrings: as many strings as may be, and as many bytes of them.
func TestMostStrings(t *testing.T) {
	for name, frames := range map[string][]string{"many": samples.Numbered(api.MaxStrings), "long": samples.Longest(64)} {
		trace := marks(make([]int, len(frames))...)
		for k, f := range frames {
			trace[k].Stack = []string{f}
		}
		for _, limit := range []int{64, api.MaxLimit} {
			x, size := builds(t, trace, limit)
			adds(t, x, size, map[int]int{2: len(frames), 3: len(frames), 4: len(frames)})
			last := len(trace) - 1
			if got, e := x.Read(last, last+1); e != api.OK || !sameTrace(got, trace[last:]) {
				t.Errorf("P12.4: %s: Read of the last event: %d", name, e)
			}
		}
	}
}
