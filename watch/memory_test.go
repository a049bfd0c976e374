package watch_test

import (
	"bytes"
	"math/rand"
	"slices"
	"testing"
	"unsafe"

	"hindsight/api"
	"hindsight/event"
	"hindsight/samples"
	"hindsight/watch"
)

var spoilt = api.Race{First: 77, Second: 99}

// roomy are events with spare room behind them and behind each of their stacks.
func roomy(events []api.Event) []api.Event {
	list := append(slices.Clone(events), mark, join1)
	for k := range list {
		list[k].Stack = append(make([]string, 0, len(list[k].Stack)+3), list[k].Stack...)
	}
	return list[:len(events)]
}

// TestAnalyzeChangesNothing: what is handed in is not changed, its spare room neither, and answers are new.
func TestAnalyzeChangesNothing(t *testing.T) {
	r := rand.New(rand.NewSource(2600))
	for range 300 {
		trace := someTrace(r, 40)
		want, f := plainVerdict(trace)
		given, untouched := roomy(trace), roomy(trace)
		first, _ := watch.Analyze(given)
		for k, e := range given[:cap(given)][:len(trace)+2] {
			other := untouched[:len(trace)+2][k]
			if !event.Same(e, other) || !slices.Equal(e.Stack[:cap(e.Stack)], other.Stack[:cap(other.Stack)]) {
				t.Fatalf("P26.9: Analyze changed the event %d of %v", k, trace)
			}
		}
		second, _ := watch.Analyze(given)
		samples.Spoil(first.Races, spoilt)
		for k := range given {
			samples.Spoil(given[k].Stack, "spoilt")
		}
		samples.Spoil(given, api.Event{G: -3, Kind: 99})
		is(t, "P26.9: Analyze, behind what its caller spoils", second, f, want, f)
	}
}

// TestKeepsNoFrames: frames over bytes that change later, as their maker knows, change no answer.
func TestKeepsNoFrames(t *testing.T) {
	b := []byte("main")
	trace := slices.Clone(f1)
	trace[1].Stack = []string{unsafe.String(&b[0], len(b))}
	v, e := watch.Analyze(trace)
	b[0] = 'x'
	is(t, "P26.9: Analyze", v, e, verdict(3, one), api.OK)
}

// TestPiecesAreNotKept: a watch goes by the bytes that a piece had when it was pushed, whatever is written
// into it behind the call; and it writes into none, nor into the room behind it.
func TestPiecesAreNotKept(t *testing.T) {
	r := rand.New(rand.NewSource(2601))
	for range 200 {
		b := taped(t, someTrace(r, 40), 64, r.Intn(4))
		w, p := watch.New(), plainNew()
		given, room := samples.Roomy(somePieces(r, b))
		for k, piece := range given {
			want, _ := p.push(piece)
			before := bytes.Clone(room[k])
			got, e := w.Push(piece)
			if e != api.OK || !slices.Equal(got, want) {
				t.Fatalf("P26.9: Push = %v, %d, want %v", got, e, want)
			}
			if !bytes.Equal(room[k], before) {
				t.Fatal("P26.9: Push changed its piece, or the room behind it")
			}
			samples.Spoil(piece, 167)
		}
		v, e := w.Close()
		want, f := p.close()
		is(t, "P26.9: Close, behind what its caller spoils", v, e, want, f)
	}
}

// TestAnswersAreNew: who writes over an answer, and over the room behind it, changes no other one.
func TestAnswersAreNew(t *testing.T) {
	r := rand.New(rand.NewSource(2602))
	for range 200 {
		b := taped(t, someRun(r, 40), 64, 1+r.Intn(4))
		two := begin(t)
		for _, piece := range somePieces(r, b) {
			before := two.watch.Sofar()
			samples.Spoil(two.watch.Sofar().Races, spoilt)
			kept := slices.Clone(before.Races)
			got := two.push(piece)
			told := slices.Clone(got)
			samples.Spoil(before.Races, spoilt)
			two.hold("what its caller spoils")
			between := two.watch.Sofar()
			if samples.Spoil(got, spoilt); !slices.Equal(between.Races, append(kept, told...)) {
				t.Fatalf("P26.9: Sofar = %v behind what its caller spoils", between.Races)
			}
			two.hold("what its caller spoils")
		}
		v, _ := two.close()
		samples.Spoil(v.Races, spoilt)
		two.hold("a verdict of Close that its caller spoils")
		samples.Spoil(two.watch.Sofar().Races, spoilt)
		two.hold("a verdict of Sofar that its caller spoils")
	}
}

// TestBesideChangesNothing: Run and Batch change nothing of what they are handed, and keep none of it.
func TestBesideChangesNothing(t *testing.T) {
	r := rand.New(rand.NewSource(2603))
	for range 60 {
		trace := someRun(r, 30)
		b := taped(t, trace, 64, 1+r.Intn(4))
		pieces, room := samples.Roomy(somePieces(r, b))
		lists := append(slices.Clone(pieces), []byte{5}) // the room behind the list
		stop := r.Intn(len(pieces)+3) - 1
		want, f := plainRun(pieces, stop)
		before := slices.Concat(room...)
		first, e := watch.Run(lists[:len(pieces)], stop)
		second, _ := watch.Run(lists[:len(pieces)], stop)
		if !bytes.Equal(slices.Concat(room...), before) || !bytes.Equal(lists[len(pieces)], []byte{5}) {
			t.Fatal("P26.9: Run changed its pieces, or the room behind them")
		}
		samples.Spoil(first.Races, spoilt)
		for _, piece := range pieces {
			samples.Spoil(piece, 9)
		}
		is(t, "P26.9: Run, behind what its caller spoils", second, e, want, f)
		files, rooms := samples.Roomy([][]byte{filed(t, trace, 64), b, {1, 2, 3}, nil})
		all := slices.Concat(rooms...)
		verdicts, faults, _ := watch.Batch(files, 1+r.Intn(64))
		others, more, _ := watch.Batch(files, 1+r.Intn(64))
		if !bytes.Equal(slices.Concat(rooms...), all) {
			t.Fatal("P26.9: Batch changed its files, or the room behind them")
		}
		samples.Spoil(verdicts[0].Races, spoilt)
		again, _ := watch.Analyze(trace)
		is(t, "P26.9: the second verdict, behind a first one that was spoilt", verdicts[1], faults[1], again, api.OK)
		samples.Spoil(verdicts, api.Verdict{Events: 99})
		samples.Spoil(faults, 99)
		samples.Spoil(files, []byte{1})
		is(t, "P26.9: another answer, behind one that was spoilt", others[0], more[0], again, api.OK)
		is(t, "P26.9: another answer, behind one that was spoilt", others[3], more[3], verdict(0), api.OK)
		if more[2] != api.ErrMagic {
			t.Errorf("P26.9: another answer's error is %d", more[2])
		}
	}
}
