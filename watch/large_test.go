package watch_test

import (
	"slices"
	"testing"
	"time"

	"hindsight/api"
	"hindsight/samples"
	"hindsight/watch"
)

// inTime fails if a test of a large recording took much longer than it needs.
func inTime(t *testing.T, begun time.Time) {
	t.Helper()
	if took := time.Since(begun); took > 100*time.Second {
		t.Errorf("P0.1: it took %v", took)
	}
}

// TestMaxTape: just so many bytes, and one more, at once and in pieces; what is refused is not taken.
func TestMaxTape(t *testing.T) {
	defer inTime(t, time.Now())
	b, most := taped(t, f1, 64, 0), make([]byte, api.MaxTape+1)
	two := watch.New()
	refused := func(b []byte) {
		t.Helper()
		n, v := two.Events(), two.Sofar()
		if got, e := two.Push(b); len(got) != 0 || e != api.ErrLarge {
			t.Errorf("P26.3: Push of %d bytes = %v, %d", len(b), got, e)
		}
		if two.Events() != n || !sameVerdict(two.Sofar(), v) {
			t.Errorf("P26.3: a Push that is refused takes something")
		}
	}
	taken := func(b []byte, want ...api.Race) {
		t.Helper()
		if got, e := two.Push(b); e != api.OK || !slices.Equal(got, want) {
			t.Errorf("P26.3: Push of %d bytes = %v, %d, want %v", len(b), got, e, want)
		}
	}
	refused(most)
	taken(b[:50])
	refused(most)
	refused(most[:api.MaxTape-49])
	taken(b[50:], one)
	refused(most[:api.MaxTape-len(b)+1])
	taken(most[:api.MaxTape-len(b)])
	for _, more := range [][]byte{{0}, b, most} {
		refused(more)
		taken(nil)
	}
	is(t, "P26.4: Sofar of MaxTape bytes", two.Sofar(), api.OK, verdict(3, one), api.OK)
	v, e := two.Close()
	is(t, "P26.5: Close behind MaxTape bytes", v, e, api.Verdict{}, api.ErrSpoilt)
	if _, e := two.Push(most); e != api.ErrDone {
		t.Errorf("P26.3: Push of too much behind Close = %d", e)
	}
	two = watch.New()
	taken(append(slices.Clone(b), most[len(b)+1:]...), one)
	refused([]byte{0})
	two = watch.New()
	refused(most)
	v, e = two.Close()
	is(t, "P26.5: Close behind a Push that was refused", v, e, verdict(0), api.OK)
}

// byteByByte pushes a recording byte by byte, and answers all that is told.
func byteByByte(t *testing.T, b []byte) ([]api.Race, api.Verdict) {
	t.Helper()
	w, told := watch.New(), []api.Race(nil)
	for k := range b {
		some, e := w.Push(b[k : k+1])
		if e != api.OK {
			t.Fatalf("P26.3: Push of the byte %d = %d", k, e)
		}
		told = append(told, some...)
	}
	v, e := w.Close()
	if e != api.OK {
		t.Fatalf("P26.5: Close = %d", e)
	}
	return told, v
}

// TestManyEvents: MaxEvents events byte by byte, in frames of a few events and of as many as may be; each
// second access is the second one of a race.
func TestManyEvents(t *testing.T) {
	defer inTime(t, time.Now())
	run := []api.Event{fork1}
	var want []api.Race
	for len(run) < api.MaxEvents-1 {
		n := len(run)
		run = append(run, write(0, uint64(n)), read(1, uint64(n)))
		want = append(want, api.Race{First: n, Second: n + 1})
	}
	for _, limit := range []int{api.MinLimit, api.MaxLimit} {
		b := taped(t, run, limit, 0)
		told, v := byteByByte(t, b)
		if !slices.Equal(told, want) || !sameVerdict(v, verdict(len(run), want...)) {
			t.Errorf("P26.6: byte by byte, limit %d: %d races, %d events", limit, len(told), v.Events)
		}
		at, e := watch.New().Push(b)
		if e != api.OK || !slices.Equal(at, want) {
			t.Errorf("P26.6: at once, limit %d: %d races, %d", limit, len(at), e)
		}
		again, e := watch.Run(sized(b, 1000), -1)
		is(t, "P26.7: Run", api.Verdict{Events: again.Events, Bad: again.Bad}, e, verdict(len(run)), api.OK)
	}
}

// TestLongFrames: frames of strings and nodes, of which each comes byte by byte.
func TestLongFrames(t *testing.T) {
	defer inTime(t, time.Now())
	run := slices.Clone(f1)
	for _, f := range samples.Longest(api.MaxText/api.MaxSite - 1) {
		run = append(run, api.Event{Kind: api.Mark, Stack: []string{f, "main"}})
	}
	for k, f := range samples.Numbered(30000) {
		run = append(run, api.Event{G: k % 2, Kind: api.Mark, Stack: []string{f}})
	}
	for _, limit := range []int{api.MinLimit, api.MaxLimit} {
		told, v := byteByByte(t, taped(t, run, limit, 0))
		if !slices.Equal(told, []api.Race{one}) || !sameVerdict(v, verdict(len(run), one)) {
			t.Errorf("P26.6: byte by byte, limit %d: %v, %v", limit, told, v)
		}
	}
}

// TestAFrameThatNeverEnds: its top tells more bytes than come.
func TestAFrameThatNeverEnds(t *testing.T) {
	defer inTime(t, time.Now())
	whole := samples.Joined([]api.Frame{{Kind: api.FrameEvents, Ord: 1, Body: make([]byte, api.MaxBody)}})
	w := watch.New()
	w.Push(taped(t, f1, 64, 0)[:26])
	for k := range len(whole) - 1 {
		if got, e := w.Push(whole[k : k+1]); len(got) != 0 || e != api.OK {
			t.Fatalf("P26.3: Push of the byte %d = %v, %d", k, got, e)
		}
	}
	is(t, "P26.4: Sofar", w.Sofar(), api.OK, verdict(0), api.OK)
	if _, e := w.Close(); e != api.ErrSpoilt {
		t.Errorf("P26.5: Close = %d", e)
	}
}

// TestRacesOfManyGoroutines: an access that races with those of thousands of goroutines, in a frame of its
// own; files of such runs beside one another.
func TestRacesOfManyGoroutines(t *testing.T) {
	defer inTime(t, time.Now())
	const n = 20000
	var run []api.Event
	var want []api.Race
	for g := 1; g < n; g++ {
		run = append(run, ev(0, api.Fork, 0, uint64(g)))
	}
	for g := 1; g < n; g++ {
		want = append(want, api.Race{First: len(run), Second: 2*n - 2})
		run = append(run, read(g, 8))
	}
	run = append(run, write(0, 8))
	ahead, b := taped(t, run[:len(run)-1], 4096, 0), taped(t, run, 4096, len(run)-1)
	if !slices.Equal(ahead, b[:len(ahead)]) {
		t.Fatal("the recording does not go on")
	}
	w := watch.New()
	if got, e := w.Push(ahead); e != api.OK || len(got) != 0 {
		t.Errorf("P26.3: Push = %d races, %d", len(got), e)
	}
	if got, e := w.Push(b[len(ahead):]); e != api.OK || !slices.Equal(got, want) {
		t.Errorf("P26.3: Push of the write = %d races, %d", len(got), e)
	}
	verdicts, faults, _ := watch.Batch(slices.Repeat([][]byte{b, filed(t, run, 4096)}, 16), 16)
	for k, v := range verdicts {
		is(t, "P26.8: Batch", v, faults[k], verdict(len(run), want...), api.OK)
	}
}
