package watch_test

import (
	"slices"
	"testing"

	"hindsight/api"
	"hindsight/frame"
	"hindsight/samples"
	"hindsight/watch"
)

func ev(g, kind int, obj, arg uint64) api.Event {
	return api.Event{G: g, Kind: kind, Obj: obj, Arg: arg}
}

var (
	fork1 = ev(0, api.Fork, 0, 1)
	fork2 = ev(0, api.Fork, 0, 2)
	join1 = ev(0, api.Join, 0, 1)
	mark  = ev(0, api.Mark, 0, 0)
)

func write(g int, address uint64) api.Event { return ev(g, api.Write, address, 1) }
func read(g int, address uint64) api.Event  { return ev(g, api.Read, address, 1) }

// f1 is the run of the chapter's examples.
var f1 = []api.Event{
	fork1,
	{G: 0, Kind: api.Write, Obj: 64, Arg: 8, Stack: []string{"f", "main"}},
	{G: 1, Kind: api.Read, Obj: 64, Arg: 8, Stack: []string{"g", "main"}},
}

var one = api.Race{First: 1, Second: 2}

// many is a run with races of one second place and of several.
var many = []api.Event{fork1, fork2, write(1, 8), write(2, 8), read(0, 8), mark, write(0, 9), read(1, 9), join1}

var manyRaces = []api.Race{{First: 2, Second: 3}, {First: 2, Second: 4}, {First: 3, Second: 4}, {First: 6, Second: 7}}

func verdict(events int, races ...api.Race) api.Verdict {
	return api.Verdict{Events: events, Bad: -1, Races: races}
}

// is fails if a verdict or an error is another one.
func is(t *testing.T, what string, got api.Verdict, e api.Errno, want api.Verdict, f api.Errno) {
	t.Helper()
	if !sameVerdict(got, want) || e != f {
		t.Errorf("%s = %v, %d, want %v, %d", what, got, e, want, f)
	}
}

// TestAnalyzeExamples are the first two examples of the chapter, and a run with more races.
func TestAnalyzeExamples(t *testing.T) {
	v, e := watch.Analyze(f1)
	is(t, "P26.1: Analyze of F1", v, e, verdict(3, one), api.OK)
	v, e = watch.Analyze(nil)
	is(t, "P26.1: Analyze of nothing", v, e, verdict(0), api.OK)
	v, e = watch.Analyze([]api.Event{})
	is(t, "P26.1: Analyze of an empty list", v, e, verdict(0), api.OK)
	v, e = watch.Analyze([]api.Event{read(1, 8)})
	is(t, "P26.1: Analyze of a goroutine that was not begun", v, e, api.Verdict{Events: 1, Bad: 0, Reason: 1}, api.OK)
	v, e = watch.Analyze([]api.Event{mark, {}})
	is(t, "P26.1: Analyze of an event of the kind 0", v, e, api.Verdict{}, api.ErrKind)
	v, e = watch.Analyze(many)
	is(t, "P26.1: Analyze of many races", v, e, verdict(9, manyRaces...), api.OK)
	v, e = watch.Analyze(append(slices.Clone(many), ev(1, api.Mark, 0, 0), mark, write(7, 8)))
	is(t, "P26.1: Analyze of races and of no run", v, e, api.Verdict{Events: 12, Bad: 9, Reason: 2}, api.OK)
}

// TestByteByByte is the third example: the race is told by the Push that makes its frame whole.
func TestByteByByte(t *testing.T) {
	for every := range 4 {
		b := taped(t, f1, 64, every)
		two := begin(t)
		for k := range b {
			got := two.push(b[k : k+1])
			if (len(got) > 0) != (k == len(b)-1) || k == len(b)-1 && !slices.Equal(got, []api.Race{one}) {
				t.Errorf("P26.3: the Push of the byte %d of %d tells %v", k, len(b), got)
			}
		}
		v, e := two.close()
		is(t, "P26.5: Close of F1", v, e, verdict(3, one), api.OK)
	}
}

// TestCloseTwice is the fourth example, and what is still answered of a watch that is closed.
func TestCloseTwice(t *testing.T) {
	for _, events := range [][]api.Event{nil, f1} {
		var b []byte
		if len(events) > 0 {
			b = taped(t, events, 64, 0)
		}
		two := begin(t)
		two.push(b)
		want, e := two.close()
		if e != api.OK || want.Bad != -1 || want.Events != len(events) {
			t.Errorf("P26.5: Close = %v, %d", want, e)
		}
		for range 3 {
			v, e := two.close()
			is(t, "P26.5: Close again", v, e, api.Verdict{}, api.ErrDone)
			for _, more := range [][]byte{nil, {}, b, {1}, make([]byte, api.MaxTape+1)} {
				if got := two.push(more); len(got) > 0 {
					t.Errorf("P26.3: Push of %d bytes behind Close tells %v", len(more), got)
				}
			}
			if v := two.watch.Sofar(); !sameVerdict(v, want) || two.watch.Events() != want.Events {
				t.Errorf("P26.4: behind Close: Sofar %v, want %v", v, want)
			}
		}
	}
}

// TestCutOff is the fifth example: of each beginning that ends within a frame Close is ErrSpoilt, and closed
// is the watch nevertheless.
func TestCutOff(t *testing.T) {
	b := taped(t, many, 64, 2)
	ends := frameEnds(t, b)
	for n := range len(b) + 1 {
		two := begin(t)
		two.push(b[:n])
		_, e := two.close()
		if (e == api.OK) != slices.Contains(ends, n) || e != api.OK && e != api.ErrSpoilt {
			t.Errorf("P26.5: Close behind %d bytes of %d = %d; the frames end at %v", n, len(b), e, ends)
		}
		if _, e := two.close(); e != api.ErrDone {
			t.Errorf("P26.5: Close again = %d", e)
		}
		two.push(b[n:])
	}
}

// frameEnds are the places at which frames end, and 0.
func frameEnds(t *testing.T, b []byte) []int {
	t.Helper()
	ends := []int{0}
	for at := 0; at < len(b); {
		_, next, e := frame.Decode(b, at)
		if e != api.OK {
			t.Fatalf("Decode at %d = %d", at, e)
		}
		at = next
		ends = append(ends, at)
	}
	return ends
}

// TestToldByTheCall: a race is told by the very call that brings its second event, each once, also several
// by one call, and in their order.
func TestToldByTheCall(t *testing.T) {
	whole := taped(t, many, 64, 1)
	two := begin(t)
	for at, ends := 0, frameEnds(t, whole)[1:]; len(ends) > 0; ends = ends[1:] {
		ahead := two.watch.Events()
		var want []api.Race
		got := two.push(whole[at:ends[0]])
		for _, r := range manyRaces {
			if r.Second == ahead && two.watch.Events() > ahead {
				want = append(want, r)
			}
		}
		if !slices.Equal(got, want) {
			t.Errorf("P26.3: the event %d: told were %v, want %v", ahead, got, want)
		}
		at = ends[0]
	}
	if got := begin(t).push(whole); !slices.Equal(got, manyRaces) {
		t.Errorf("P26.3: all at once: told were %v", got)
	}
}

// TestNothingFromTheFirstBadEventOn: of the very call that brings it nothing is told either, whatever races
// the events ahead of it make; later calls tell nothing; but events are counted.
func TestNothingFromTheFirstBadEventOn(t *testing.T) {
	for reason, wrong := range samples.NoRuns() {
		events := slices.Concat([]api.Event{fork1, write(1, 1000), write(0, 1000)}, wrong)
		bad := len(events) - 1
		events = append(events, write(0, 1000), write(1, 1000), ev(9, api.Join, 0, 8), mark)
		for every := 1; every <= len(events); every++ {
			b := taped(t, events, 4096, every)
			two := begin(t)
			told, ends := 0, frameEnds(t, b)
			for k, to := range ends[1:] {
				got := two.push(b[ends[k]:to])
				if told += len(got); len(got) > 0 && two.watch.Events() > bad {
					t.Errorf("P26.3: from the bad event %d on %v is told", bad, got)
				}
			}
			if ahead := 2/every < bad/every; told > 1 || ahead != (told == 1) {
				t.Errorf("P26.3: reason %d, frames of %d events: told were %d races, the bad event is %d", reason+1, every, told, bad)
			}
			v, e := two.close()
			is(t, "P26.5: Close of no run", v, e, api.Verdict{Events: len(events), Bad: bad, Reason: reason + 1}, api.OK)
			pushes(t, b)
			pushes(t, sized(b, 1)...)
		}
	}
}

// TestNilWatch: there is none, or New did not make it.
func TestNilWatch(t *testing.T) {
	for _, w := range []*watch.Watch{nil, {}} {
		for range 2 {
			for _, b := range [][]byte{nil, {}, taped(t, f1, 64, 0), make([]byte, api.MaxTape+1)} {
				if got, e := w.Push(b); len(got) != 0 || e != api.ErrNil {
					t.Errorf("P26.3: Push on no watch = %v, %d", got, e)
				}
			}
			v, e := w.Close()
			is(t, "P26.5: Close of no watch", v, e, api.Verdict{}, api.ErrNil)
			is(t, "P26.9: Sofar of no watch", w.Sofar(), api.OK, api.Verdict{Bad: -1}, api.OK)
			if n := w.Events(); n != 0 {
				t.Errorf("P26.9: Events of no watch = %d", n)
			}
		}
	}
}
