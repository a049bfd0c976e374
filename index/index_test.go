package index_test

import (
	"math/rand"
	"slices"
	"strings"
	"testing"

	"hindsight/api"
	"hindsight/event"
	"hindsight/file"
	"hindsight/index"
	"hindsight/samples"
)

func marks(gs ...int) []api.Event {
	var t []api.Event
	for _, g := range gs {
		t = append(t, api.Event{G: g, Kind: api.Mark})
	}
	return t
}

// long are events whose records are so long that a body of 64 bytes has room for two of them.
func long(gs ...int) []api.Event {
	t := marks(gs...)
	turns := map[int]uint64{}
	for k, g := range gs {
		turns[g]++
		t[k].Obj, t[k].Arg = turns[g]%2<<63+uint64(k), 1<<64-1
	}
	return t
}

// deep are events with stacks of their own, for several frames of strings and of stacks.
func deep() []api.Event {
	t := long(slices.Repeat([]int{3, 3, 0, 3, 5, 0}, 4)...)
	for k := range t {
		t[k].Stack = []string{strings.Repeat("x", k*7), string(rune('a' + k)), "work", "main"}
	}
	return t
}

func TestExample(t *testing.T) {
	trace := marks(0, 0, 1, 1, 0)
	x, p := built(t, trace, 64)
	want := []api.Spot{
		{Kind: 1, Ord: 0, From: 0, To: 26, First: -1, Last: -1},
		{Kind: 4, Ord: 1, From: 26, To: 52, First: 0, Last: 4, Count: 3},
		{Kind: 4, Ord: 2, Stream: 1, From: 52, To: 76, First: 2, Last: 3, Count: 2},
		{Kind: 5, Ord: 3, From: 76, To: 101, First: -1, Last: -1},
	}
	if got := x.Spots(); !slices.Equal(got, want) {
		t.Errorf("P12.2: Spots() = %v, want %v", got, want)
	}
	for _, q := range [][2]int{{-1, 5}, {0, 3}, {1, 2}, {7, 0}, {-2, 0}} {
		if got := x.Events(q[0]); got != q[1] {
			t.Errorf("P12.3: Events(%d) = %d, want %d", q[0], got, q[1])
		}
	}
	if got := x.Goroutines(); !slices.Equal(got, []int{0, 1}) {
		t.Errorf("P12.3: Goroutines() = %v", got)
	}
	tells(t, x, p)
}

func TestReadExample(t *testing.T) {
	trace := marks(0, 0, 1, 1, 0)
	x, _ := built(t, trace, 64)
	if got := x.Touched(); got != 0 {
		t.Errorf("P12.6: Touched() = %d ahead of the first Read", got)
	}
	for _, q := range []struct {
		lo, hi, touched int
		fault           api.Errno
	}{{2, 4, 2, api.OK}, {0, 2, 1, api.OK}, {5, 5, 0, api.OK}, {2, 4, 2, api.OK}, {3, 2, 2, api.ErrRange}, {0, 6, 2, api.ErrRange}, {-1, 0, 2, api.ErrRange}} {
		got, e := x.Read(q.lo, q.hi)
		if e != q.fault || e == api.OK && !sameTrace(got, trace[q.lo:q.hi]) || e != api.OK && len(got) != 0 {
			t.Errorf("P12.4: Read(%d, %d) = %v, %d", q.lo, q.hi, got, e)
		}
		if x.Touched() != q.touched {
			t.Errorf("P12.6: behind Read(%d, %d) Touched() = %d, want %d", q.lo, q.hi, x.Touched(), q.touched)
		}
	}
}

func TestOfExample(t *testing.T) {
	x, _ := built(t, marks(0, 0, 1, 1, 0), 64)
	for _, q := range []struct {
		g, nth, most int
		stamps       []int
		touched      int
		fault        api.Errno
	}{
		{1, 1, 9, []int{3}, 1, api.OK},
		{1, 3, 0, nil, 1, api.ErrRange},
		{2, 0, 1, nil, 1, api.ErrG},
		{1, 2, 9, nil, 0, api.OK},
		{0, 0, 3, []int{0, 1, 4}, 1, api.OK},
	} {
		got, stamps, e := x.Of(q.g, q.nth, q.most)
		if e != q.fault || !slices.Equal(stamps, q.stamps) || !sameTrace(got, marks(slices.Repeat([]int{q.g}, len(q.stamps))...)) {
			t.Errorf("P12.5: Of(%d, %d, %d) = %v, %v, %d", q.g, q.nth, q.most, got, stamps, e)
		}
		if x.Touched() != q.touched {
			t.Errorf("P12.6: behind Of(%d, %d, %d) Touched() = %d, want %d", q.g, q.nth, q.most, x.Touched(), q.touched)
		}
	}
}

// TestFaultsInTheirOrder: that a goroutine has no events goes ahead of a range that may not be.
func TestFaultsInTheirOrder(t *testing.T) {
	x, p := built(t, marks(0, 2, 2), 64)
	for _, g := range []int{1, 3, -1, -2, maxG, 1 << 32, 1<<32 + 2} {
		for _, nth := range []int{-1, 0, 1, 9} {
			if got, stamps, e := x.Of(g, nth, -1); e != api.ErrG || len(got) != 0 || len(stamps) != 0 {
				t.Errorf("P12.5: Of(%d, %d, -1) = %v, %v, %d", g, nth, got, stamps, e)
			}
			finds(t, x, p, g, nth, 5)
		}
	}
}

// edges are numbers about those from 0 to n, and such as are far off.
func edges(n int) []int {
	return []int{-1 << 63, -2, -1, 0, 1, n / 2, n - 1, n, n + 1, n + 2, 1 << 31, 1 << 32, 1<<63 - 1}
}

// asksAll asks every range and every goroutine, and what lies just beyond; gs are goroutines to ask for.
func asksAll(t *testing.T, x *index.Index, p *plain, gs ...int) {
	t.Helper()
	tells(t, x, p, gs...)
	n := len(p.trace)
	for lo := -1; lo <= n+1; lo++ {
		for hi := -1; hi <= n+1; hi++ {
			reads(t, x, p, lo, hi)
		}
	}
	for _, g := range gs {
		n := p.events(g)
		for nth := -1; nth <= n+1; nth++ {
			for most := -1; most <= n+1; most++ {
				finds(t, x, p, g, nth, most)
			}
			finds(t, x, p, g, nth, 1<<63-1)
		}
	}
	tells(t, x, p, gs...)
}

func TestNoEvents(t *testing.T) {
	x, p := built(t, nil, 64)
	want := []api.Spot{{Kind: 1, From: 0, To: 26, First: -1, Last: -1}, {Kind: 5, Ord: 1, From: 26, To: 51, First: -1, Last: -1}}
	if got := x.Spots(); !slices.Equal(got, want) {
		t.Errorf("P12.2: Spots() = %v, want %v", got, want)
	}
	asksAll(t, x, p, -1, 0, 1, maxG-1)
	for _, lo := range edges(0) {
		for _, hi := range edges(0) {
			reads(t, x, p, lo, hi)
			finds(t, x, p, 0, lo, hi)
		}
	}
}

// allTraces are all rows of n of a few goroutines.
func allTraces(n int, gs ...int) [][]int {
	rows := [][]int{nil}
	for range n {
		var longer [][]int
		for _, row := range rows {
			for _, g := range gs {
				longer = append(longer, append(slices.Clone(row), g))
			}
		}
		rows = longer
	}
	return rows
}

// TestEverySmallTrace: all traces of few events, in bodies that have room for two records, asked everything.
func TestEverySmallTrace(t *testing.T) {
	for n := range 7 {
		for _, row := range allTraces(n, 0, 1, maxG-1) {
			x, p := built(t, long(row...), 64)
			asksAll(t, x, p, -1, 0, 1, 2, maxG-1)
		}
	}
}

// TestManyChunks: a few goroutines with several chunks each, asked everything; some of the chunks reach over
// others, some have nothing of a range that they reach over.
func TestManyChunks(t *testing.T) {
	first := slices.Repeat([]int{4, 7}, 6)
	turns := slices.Concat([]int{9}, first, []int{9}, slices.Repeat([]int{4}, 7), []int{9, 9, 7})
	for name, trace := range map[string][]api.Event{
		"long": long(turns...),
		"one":  long(slices.Repeat([]int{4}, 21)...),
		"deep": deep(),
	} {
		for _, limit := range []int{64, 65, 90, 1000} {
			x, p := built(t, trace, limit)
			if chunks := p.kinds()[4]; limit == 64 && chunks < 6 {
				t.Errorf("%s has %d chunks", name, chunks)
			}
			asksAll(t, x, p, -1, 0, 3, 4, 5, 7, 9)
		}
	}
}

// kinds counts the frames of each kind.
func (p *plain) kinds() map[int]int {
	count := map[int]int{}
	for _, s := range p.spots {
		count[s.Kind]++
	}
	return count
}

// TestCounts: frames of strings and of stacks, told by hand.
func TestCounts(t *testing.T) {
	trace := marks(2, 2, 2)
	trace[0].Stack = []string{strings.Repeat("a", 61), "b"} // the string b is the first, of 2 bytes with its length
	trace[1].Stack = []string{strings.Repeat("c", 70)}
	trace[2].Stack = []string{"d", "b"}
	x, p := built(t, trace, 64)
	var counts []int
	for _, s := range x.Spots() {
		counts = append(counts, s.Kind, s.Count)
	}
	if want := []int{1, 0, 2, 1, 2, 1, 2, 1, 2, 1, 3, 4, 4, 3, 5, 0}; !slices.Equal(counts, want) {
		t.Errorf("P12.2: the kinds and counts are %v, want %v", counts, want)
	}
	asksAll(t, x, p, 0, 2)
	trace[0].Stack[0] = strings.Repeat("a", 60) // with b it fills a body
	x, p = built(t, trace, 64)
	if got := p.kinds()[2]; got != 3 || x.Spots()[1].Count != 2 {
		t.Errorf("P12.2: %d frames of strings, %v", got, x.Spots())
	}
	x, p = built(t, deep(), 64)
	if got := p.kinds(); got[2] < 4 || got[3] < 2 {
		t.Errorf("the file has frames of the kinds %v", got)
	}
	tells(t, x, p, 0, 3, 5)
}

// TestManyTraces: traces of all sorts, for limits of all sorts, asked some of everything.
func TestManyTraces(t *testing.T) {
	r := rand.New(rand.NewSource(12))
	for range 300 {
		trace := samples.Trace(r.Intn, 300)
		x, p := built(t, trace, samples.Limit(r.Intn))
		tells(t, x, p, 1, 2, 3, 4, 5)
		n := len(trace)
		reads(t, x, p, 0, n)
		for range 40 {
			g := []int{-1, 0, 1, 2, 3, 4, 5, maxG - 1}[r.Intn(8)]
			reads(t, x, p, r.Intn(n+3)-1, r.Intn(n+3)-1)
			finds(t, x, p, g, r.Intn(p.events(g)+3)-1, r.Intn(n+3)-1)
			lo := r.Intn(n + 1)
			reads(t, x, p, lo, min(n, lo+r.Intn(4)))
			finds(t, x, p, g, r.Intn(p.events(g)+1), r.Intn(4))
		}
		for _, k := range edges(n) {
			reads(t, x, p, k, n)
			reads(t, x, p, 0, k)
			finds(t, x, p, 0, k, n)
			finds(t, x, p, 0, 0, k)
			finds(t, x, p, 0, min(1, p.events(0)), k)
		}
	}
}

// TestWholeTrace: P12.7, as it is said: all goroutines' events, put together by their stamps, are the trace.
func TestWholeTrace(t *testing.T) {
	r := rand.New(rand.NewSource(13))
	for range 60 {
		trace, limit := samples.Trace(r.Intn, 200), samples.Limit(r.Intn)
		b, _ := file.Record(trace, limit)
		x, e := index.Build(b)
		if e != api.OK {
			t.Fatalf("P12.1: Build = %d", e)
		}
		whole := make([]api.Event, len(trace))
		put := 0
		for _, g := range x.Goroutines() {
			events, stamps, e := x.Of(g, 0, x.Events(-1))
			if e != api.OK || len(events) != len(stamps) || len(events) != x.Events(g) {
				t.Fatalf("P12.7: Of(%d, 0, ..) = %d events, %d stamps, %d; Events %d", g, len(events), len(stamps), e, x.Events(g))
			}
			for k, stamp := range stamps {
				if events[k].G != g || !event.Same(events[k], trace[stamp]) {
					t.Fatalf("P12.7: the event of %d with the stamp %d is %v, want %v", g, stamp, events[k], trace[stamp])
				}
				whole[stamp] = events[k]
				put++
			}
		}
		if put != len(trace) || !sameTrace(whole, trace) {
			t.Fatalf("P12.7: all goroutines' events are %d, want %d, or are not the trace", put, len(trace))
		}
		if got, e := x.Read(0, len(trace)); e != api.OK || !sameTrace(got, trace) {
			t.Fatalf("P12.7: Read of all is not the trace: %d", e)
		}
	}
}
