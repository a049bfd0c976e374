package slice_test

import (
	"math/rand"
	"slices"
	"testing"

	"hindsight/api"
	"hindsight/samples"
	"hindsight/slice"
)

// spoilt stands in no run.
var spoilt = api.Event{G: 99, Kind: 98, Obj: 97, Arg: 96, Stack: []string{"spoilt"}}

// stacked is a run with unlike stacks, each with spare room behind it; some are empty.
func stacked(run []api.Event) []api.Event {
	run = slices.Clone(run)
	for k := range run {
		run[k].Stack = append(make([]string, 0, 5), []string{"f", "g", "main"}[:k%4]...)
	}
	return run
}

// deep is a copy that shares nothing.
func deep(events []api.Event) []api.Event {
	list := slices.Clone(events)
	for k := range list {
		list[k].Stack = slices.Clone(list[k].Stack)
	}
	return list
}

// asked is a run, and all that the calls are asked of it.
type asked struct {
	run    []api.Event
	n      int
	keep   []bool
	lo, hi uint64
	race   api.Race
}

// someAsked is of a run with stacks that has races, mostly.
func someAsked(t *testing.T, r *rand.Rand) asked {
	t.Helper()
	run := stacked(someRun(r, 1+r.Intn(40)))
	a := asked{run: run, n: r.Intn(len(run) + 1), keep: someChoice(r, len(run)), lo: run[0].Obj, hi: run[0].Obj + 4}
	if races := racesOf(t, run); len(races) > 0 {
		a.race = races[r.Intn(len(races))]
	}
	return a
}

// answers are those of all calls.
type answers struct {
	events [4][]api.Event
	places [3][]int
	kept   []bool
}

func (a asked) ask() answers {
	var b answers
	b.events[0], _ = slice.Prefix(a.run, a.n)
	b.events[1], b.places[0], _ = slice.Take(a.run, a.keep)
	b.events[2], b.places[1], _, _ = slice.Only(a.run, a.lo, a.hi)
	b.events[3], b.places[2], _, _ = slice.Around(a.run, a.race)
	b.kept, _, _ = slice.Closed(a.run, a.keep)
	return b
}

func (b answers) same(c answers) bool {
	for k := range b.events {
		if !sameEvents(b.events[k], c.events[k]) {
			return false
		}
	}
	for k := range b.places {
		if !slices.Equal(b.places[k], c.places[k]) {
			return false
		}
	}
	return slices.Equal(b.kept, c.kept)
}

func (b answers) deep() answers {
	c := answers{kept: slices.Clone(b.kept)}
	for k := range b.events {
		c.events[k] = deep(b.events[k])
	}
	for k := range b.places {
		c.places[k] = slices.Clone(b.places[k])
	}
	return c
}

// TestNothingIsChanged: what is handed in is not changed, nor its spare room; what becomes of it later changes no
// answer.
func TestNothingIsChanged(t *testing.T) {
	r := rand.New(rand.NewSource(2291))
	left := 0
	for range 400 {
		a := someAsked(t, r)
		n := len(a.run)
		whole := append(stacked(a.run), stacked([]api.Event{mark, release(0, 7)})...)
		untouched := deep(whole)
		truths := append(slices.Clone(a.keep), true, false, true)
		b := asked{whole[:n], a.n, truths[:n], a.lo, a.hi, a.race}
		got, want := b.ask(), a.ask().deep()
		for k := range whole {
			room := whole[k].Stack[:5]
			if !sameEvents(whole[k:k+1], untouched[k:k+1]) || slices.Max(room[len(whole[k].Stack):]) != "" {
				t.Fatalf("P22.10: the event %d of %v was changed", k, untouched)
			}
		}
		if !slices.Equal(truths, append(slices.Clone(a.keep), true, false, true)) {
			t.Fatalf("P22.10: the choice %v of %v was changed: %v", a.keep, a.run, truths)
		}
		for k := range whole {
			samples.Spoil(whole[k].Stack, "spoilt")
			whole[k] = spoilt
		}
		for k := range truths {
			truths[k] = !truths[k]
		}
		if !got.same(want) || !a.ask().same(want) {
			t.Fatalf("P22.10: of %v: %v, and later %v", a, want, got)
		}
		left += len(got.events[3])
	}
	if left < 200 {
		t.Errorf("the test met %d events around races only", left)
	}
}

// TestAnswersAreNew: who writes over an answer, and over the room behind it, changes no other one, no other list of
// it, and nothing that was handed in; stacks too.
func TestAnswersAreNew(t *testing.T) {
	r := rand.New(rand.NewSource(2292))
	for range 400 {
		a := someAsked(t, r)
		run, keep := deep(a.run), slices.Clone(a.keep)
		got, calm := a.ask(), a.ask()
		want := calm.deep()
		for k, events := range got.events {
			for i := range events {
				samples.Spoil(events[i].Stack, "spoilt")
				_ = append(events[i].Stack, "spoilt", "spoilt")
				events[i].Stack = nil
				if !sameEvents(events[i+1:], want.events[k][i+1:]) {
					t.Fatalf("P22.10: of %v: events share their stacks", a)
				}
			}
			samples.Spoil(events, spoilt)
			got.events[k] = want.events[k]
			if !got.same(want) {
				t.Fatalf("P22.10: of %v: the answers share their events", a)
			}
		}
		for k := range got.places {
			samples.Spoil(got.places[k], -9)
			got.places[k] = want.places[k]
			if !got.same(want) {
				t.Fatalf("P22.10: of %v: the answers share their places", a)
			}
		}
		samples.Spoil(got.kept, true)
		if !sameEvents(run, a.run) || !slices.Equal(keep, a.keep) || !calm.same(want) || !a.ask().same(want) {
			t.Fatalf("P22.10: of %v: something was changed", a)
		}
	}
}

// TestClosedChoiceIsNew: also where nothing is added to what was handed in.
func TestClosedChoiceIsNew(t *testing.T) {
	for _, keep := range [][]bool{chosen(5, 1, 3), chosen(5, 0, 2, 4), chosen(5), slices.Repeat([]bool{true}, 5)} {
		want := slices.Clone(keep)
		got := closed(t, one, keep)
		for k := range got {
			got[k] = !got[k]
		}
		if !slices.Equal(keep, want) {
			t.Errorf("P22.10: %v became %v", want, keep)
		}
	}
}

// TestWholeIsNew: all events of a trace, by each call that can answer all.
func TestWholeIsNew(t *testing.T) {
	run := stacked([]api.Event{fork(0, 1), fork(1, 2), write(1, 8, 1), write(2, 8, 1)})
	untouched := deep(run)
	all := slices.Repeat([]bool{true}, len(run))
	for range 2 {
		a, _ := slice.Prefix(run, len(run))
		b, _, _ := slice.Take(run, all)
		c, _, _, _ := slice.Only(run, 0, top)
		d, _, _, _ := slice.Around(run, at(2, 3))
		for k, list := range [][]api.Event{a, b, c, d} {
			if !sameEvents(list, untouched) {
				t.Fatalf("P22.10: the call %d answers %v, want %v", k, list, untouched)
			}
			for i := range list {
				samples.Spoil(list[i].Stack, "spoilt")
			}
			samples.Spoil(list, spoilt)
		}
		if !sameEvents(run, untouched) {
			t.Fatalf("P22.10: what was handed in became %v", run)
		}
	}
}

// TestNothingIsKept: what was asked ahead of it, refused or answered, changes no answer.
func TestNothingIsKept(t *testing.T) {
	r := rand.New(rand.NewSource(2293))
	var all []asked
	var want []answers
	for range 50 {
		a := someAsked(t, r)
		all, want = append(all, a), append(want, a.ask().deep())
	}
	for range 500 {
		asked{run: strange, n: 9, keep: make([]bool, 3), hi: top, race: at(1, 2)}.ask()
		if k := r.Intn(len(all)); !all[k].ask().same(want[k]) {
			t.Fatalf("P0.3: of %v: other answers than ahead of it, %v", all[k], want[k])
		}
	}
}
