package watch_test

import (
	"math/rand"
	"slices"
	"testing"

	"hindsight/api"
	"hindsight/samples"
	"hindsight/watch"
)

// accesses are kinds of which runs with many races are made.
var accesses = []int{api.Fork, api.Read, api.Write, api.Write, api.Acquire, api.Release, api.Mark}

// someRun is a run, mostly with races, with stacks and without.
func someRun(r *rand.Rand, most int) []api.Event {
	kinds := accesses
	if r.Intn(3) == 0 {
		kinds = samples.Focus()[r.Intn(len(samples.Focus()))]
	}
	run := samples.Run(r.Intn, r.Intn(most+1), 2+r.Intn(4), kinds...)
	if r.Intn(2) == 0 {
		for k := range run {
			run[k].Stack = samples.Stack(r.Intn)
		}
	}
	return run
}

// someTrace is a run, or one into which an event was put that may spoil it, at some place.
func someTrace(r *rand.Rand, most int) []api.Event {
	run := someRun(r, most)
	if r.Intn(3) > 0 {
		return run
	}
	return slices.Insert(run, r.Intn(len(run)+1), samples.Move(r.Intn, 6, samples.Kinds()...))
}

// somePieces are bytes cut at random, with pieces of no bytes between.
func somePieces(r *rand.Rand, b []byte) [][]byte {
	pieces, most := [][]byte(nil), 1+r.Intn(1+r.Intn(1+2*len(b)))
	for len(b) > 0 {
		switch r.Intn(6) {
		case 0:
			pieces = append(pieces, nil)
		case 1:
			pieces = append(pieces, []byte{})
		default:
			n := min(len(b), 1+r.Intn(most))
			pieces, b = append(pieces, b[:n]), b[n:]
		}
	}
	return append(pieces, nil)
}

// TestAnalyze: of runs and of traces that are none.
func TestAnalyze(t *testing.T) {
	r := rand.New(rand.NewSource(261))
	racy, bad := 0, 0
	for range 3000 {
		trace := someTrace(r, 60)
		want, f := plainVerdict(trace)
		got, e := watch.Analyze(trace)
		if is(t, "P26.1: Analyze", got, e, want, f); t.Failed() {
			t.Fatalf("of %v", trace)
		}
		if len(want.Races) > 0 {
			racy++
		}
		if want.Bad >= 0 {
			bad++
		}
	}
	if racy < 500 || bad < 300 {
		t.Errorf("%d traces had races, %d were no runs", racy, bad)
	}
}

// TestEverySize: pieces of every size, of recordings whose frames hold few events and many.
func TestEverySize(t *testing.T) {
	r := rand.New(rand.NewSource(262))
	told := 0
	for k := range 12 {
		b := taped(t, someTrace(r, 12), 64, []int{0, 1, 1, 3}[k%4])
		for size := 1; size <= len(b); size++ {
			v, e := pushes(t, sized(b, size)...)
			if e != api.OK {
				t.Fatalf("P26.5: Close, in pieces of %d = %d", size, e)
			}
			told += len(v.Races)
		}
	}
	if told < 1000 {
		t.Errorf("only %d races were told", told)
	}
}

// TestTwoPieces: a recording cut in two at each place, so just at a frame's end, and one byte ahead of it and
// behind it; and in three, of which the middle one begins or ends there.
func TestTwoPieces(t *testing.T) {
	b := taped(t, many, 64, 2)
	for n := range len(b) + 1 {
		pushes(t, b[:n], b[n:])
		pushes(t, b[:n], nil, []byte{}, b[n:])
	}
	for _, end := range frameEnds(t, b) {
		for n := max(end-1, 0); n <= min(end+1, len(b)); n++ {
			for _, size := range []int{0, 1, 2, 16, 20, 30, 60} {
				to := min(n+size, len(b))
				pushes(t, b[:n], b[n:to], b[to:])
			}
		}
	}
}

// TestAnyCutting: the same bytes in many cuttings: told is the same, and in the end said is the same.
func TestAnyCutting(t *testing.T) {
	r := rand.New(rand.NewSource(263))
	for range 150 {
		trace := someTrace(r, 60)
		b := taped(t, trace, samples.Limit(r.Intn), r.Intn(9))
		want, f := pushes(t, b)
		whole, e := plainVerdict(trace)
		is(t, "P26.5: Close of a recording at once", want, f, whole, e)
		for range 6 {
			v, e := pushes(t, somePieces(r, b)...)
			is(t, "P26.6: Close of another cutting", v, e, want, f)
		}
	}
}

// TestAsking: who asks between pushes, or does not, is told the same.
func TestAsking(t *testing.T) {
	r := rand.New(rand.NewSource(264))
	for range 100 {
		b := taped(t, someTrace(r, 40), 64, 1+r.Intn(5))
		two, calm := begin(t), watch.New()
		for _, piece := range somePieces(r, b) {
			for range r.Intn(3) {
				two.hold("asking")
			}
			told, _ := calm.Push(piece)
			if got := two.push(piece); !slices.Equal(got, told) {
				t.Fatalf("P26.4: asked between, told were %v, else %v", got, told)
			}
		}
		v, e := calm.Close()
		w, f := two.close()
		is(t, "P26.4: Close, asked between", w, f, v, e)
	}
}

// TestTwoWatches have nothing to do with each other.
func TestTwoWatches(t *testing.T) {
	r := rand.New(rand.NewSource(265))
	for range 60 {
		two := []*pair{begin(t), begin(t)}
		pieces := [][][]byte{}
		for range two {
			pieces = append(pieces, somePieces(r, taped(t, someTrace(r, 30), 64, 2)))
		}
		for len(pieces[0])+len(pieces[1]) > 0 {
			k := r.Intn(2)
			if len(pieces[k]) > 0 {
				two[k].push(pieces[k][0])
				pieces[k] = pieces[k][1:]
			} else {
				two[k].close()
			}
		}
		two[0].close()
		two[1].close()
	}
}
