package deadlock_test

import (
	"math/rand"
	"slices"
	"testing"
	"unsafe"

	"hindsight/api"
	"hindsight/deadlock"
	"hindsight/event"
	"hindsight/samples"
)

var spoilt = api.Hold{G: 99, Outer: 98, Inner: 97, At: 96, OuterRead: true, InnerRead: true}

// stacked is a run with a stack at each event, each with spare room behind it.
func stacked(run []api.Event) []api.Event {
	run = slices.Clone(run)
	for k := range run {
		run[k].Stack = append(make([]string, 0, 5), "f", "main")
	}
	return run
}

// answers are those of all calls on a run.
type answers struct {
	holds []api.Hold
	rings [][]api.Hold
	order []uint64
}

func ask(run []api.Event) answers {
	var a answers
	a.holds, _, _ = deadlock.Holds(run)
	a.rings, _, _ = deadlock.Cycles(run)
	a.order, _, _, _ = deadlock.Order(run)
	return a
}

func (a answers) same(b answers) bool {
	return slices.Equal(a.holds, b.holds) && sameRings(a.rings, b.rings) && slices.Equal(a.order, b.order)
}

// deep is a copy that shares nothing.
func (a answers) deep() answers {
	b := answers{slices.Clone(a.holds), nil, slices.Clone(a.order)}
	for _, ring := range a.rings {
		b.rings = append(b.rings, slices.Clone(ring))
	}
	return b
}

// TestNothingIsChanged: what is handed in is not changed, its spare room neither; what becomes of it later changes
// no answer.
func TestNothingIsChanged(t *testing.T) {
	r := rand.New(rand.NewSource(218))
	for range 300 {
		run := nestsRun(r, 40, 2+r.Intn(3), 2+r.Intn(4), r.Intn(4))
		beyond := append(slices.Clone(run), mark, acquire(0, 5))
		whole, untouched := stacked(beyond), stacked(beyond)
		got := ask(whole[:len(run)])
		want := got.deep()
		for k := range whole {
			if !event.Same(whole[k], untouched[k]) || whole[k].Stack[:5][2] != "" {
				t.Fatalf("P21.6: the event %d of %v was changed", k, untouched)
			}
		}
		for k := range whole {
			samples.Spoil(whole[k].Stack, "spoilt")
			whole[k] = api.Event{G: 5, Kind: 99}
		}
		if !got.same(want) || !ask(run).same(want) {
			t.Fatalf("P21.6: of %v: %v, and later %v", run, want, got)
		}
	}
}

// TestAnswersAreNew: who writes over an answer, and over the room behind it, changes no other one, and no other
// list of it.
func TestAnswersAreNew(t *testing.T) {
	r := rand.New(rand.NewSource(219))
	met := 0
	for range 300 {
		run := nestsRun(r, 60, 3+r.Intn(3), 3+r.Intn(3), r.Intn(3))
		got, calm := ask(run), ask(run)
		want := calm.deep()
		samples.Spoil(got.holds, spoilt)
		samples.Spoil(got.order, 99)
		if !sameRings(got.rings, want.rings) {
			t.Fatalf("P21.6: of %v: the rings share what Holds answered", run)
		}
		for k := range got.rings {
			samples.Spoil(got.rings[k], spoilt)
			if !sameRings(got.rings[k+1:], want.rings[k+1:]) {
				t.Fatalf("P21.6: of %v: the rings share their holds", run)
			}
			met++
		}
		samples.Spoil(got.rings, []api.Hold{spoilt})
		if !calm.same(want) || !ask(run).same(want) {
			t.Fatalf("P21.6: of %v: answers were changed", run)
		}
	}
	if met < 500 {
		t.Errorf("the test met %d rings only", met)
	}
}

// TestKeepsNoFrames: frames over bytes that change later, as their maker knows, change no answer.
func TestKeepsNoFrames(t *testing.T) {
	b := []byte("main")
	run := slices.Clone(ringed)
	for k := range run {
		run[k].Stack = []string{unsafe.String(&b[0], len(b))}
	}
	first := ask(run)
	b[0] = 'x'
	if !first.same(ask(ringed)) || !ask(run).same(first) {
		t.Errorf("P21.6: of %v: %v", run, first)
	}
}

// TestNothingIsKept: what was asked ahead of it, refused or answered, changes no answer.
func TestNothingIsKept(t *testing.T) {
	r := rand.New(rand.NewSource(2110))
	var runs [][]api.Event
	var want []answers
	for range 50 {
		runs = append(runs, nestsRun(r, 30, 2+r.Intn(3), 2+r.Intn(3), r.Intn(4)))
		want = append(want, ask(runs[len(runs)-1]))
	}
	wrong := [][]api.Event{{{}}, {release(0, 7)}, row(0, 7, api.MaxHeld+2), row(0, 7, api.MaxHeld+1), nil}
	for range 500 {
		ask(wrong[r.Intn(len(wrong))])
		if k := r.Intn(len(runs)); !ask(runs[k]).same(want[k]) {
			t.Fatalf("P0.3: of %v: other answers than ahead of it, %v", runs[k], want[k])
		}
	}
}
