package race_test

import (
	"math/rand"
	"slices"
	"testing"
	"unsafe"

	"hindsight/api"
	"hindsight/event"
	"hindsight/race"
	"hindsight/samples"
)

var spoilt = api.Race{First: 77, Second: 99}

// stacked is a run with a stack at each event, each with spare room behind it.
func stacked(run []api.Event) []api.Event {
	run = slices.Clone(run)
	for k := range run {
		run[k].Stack = append(make([]string, 0, 5), "f", "main")
	}
	return run
}

// TestNothingIsChanged: what is handed in is not changed, its spare room neither, and answers are new.
func TestNothingIsChanged(t *testing.T) {
	r := rand.New(rand.NewSource(198))
	for range 200 {
		run := someRun(r, 40)
		want := firsts(t, run)
		whole, untouched := stacked(append(slices.Clone(run), mark, join1)), stacked(append(slices.Clone(run), mark, join1))
		trace := whole[:len(run)]
		all, _, _ := race.All(trace)
		race.First(trace)
		for k := range whole {
			if !event.Same(whole[k], untouched[k]) || whole[k].Stack[:5][2] != "" {
				t.Fatalf("P19.8: All changed the event %d of %v", k, untouched)
			}
		}
		again, _, _ := race.All(trace)
		samples.Spoil(all, spoilt)
		for k := range whole {
			samples.Spoil(whole[k].Stack, "spoilt")
			whole[k] = api.Event{G: 5, Kind: 99}
		}
		if !slices.Equal(again, want) {
			t.Fatalf("P19.8: of %v: All = %v, want %v", run, again, want)
		}
		answers(t, run, want...)
	}
}

// TestAnswersAreNew: who writes over what a detector answered, and over the room behind it, changes no other
// answer, nor do later events; nor does who changes an event behind Add.
func TestAnswersAreNew(t *testing.T) {
	r := rand.New(rand.NewSource(199))
	told := 0
	for range 300 {
		run := someRun(r, 50)
		want := firsts(t, run)
		careless, calm := race.New(), race.New()
		var kept [][]api.Race
		for k, e := range stacked(run) {
			stack := slices.Clone(e.Stack[:5])
			got, _ := careless.Add(e)
			if !slices.Equal(e.Stack[:5], stack) {
				t.Fatalf("P19.8: Add changed the stack of %v", e)
			}
			if !slices.Equal(got, second(want, k)) {
				t.Fatalf("P19.8: of %v: Add of %d = %v, want %v", run, k, got, second(want, k))
			}
			samples.Spoil(e.Stack, "spoilt")
			samples.Spoil(got, spoilt)
			told += len(got)
			other, _ := calm.Add(run[k])
			kept = append(kept, other)
		}
		for k, got := range kept {
			if !slices.Equal(got, second(want, k)) {
				t.Fatalf("P19.8: of %v: later events changed what was answered of %d: %v", run, k, got)
			}
		}
	}
	if told < 1000 {
		t.Errorf("the test met %d races only", told)
	}
}

// TestTwoDetectors: they have nothing to do with each other, nor with All.
func TestTwoDetectors(t *testing.T) {
	r := rand.New(rand.NewSource(1900))
	for range 100 {
		runs := [][]api.Event{someRun(r, 40), someRun(r, 40)}
		detectors := []*race.Detector{race.New(), race.New()}
		want := [][]api.Race{firsts(t, runs[0]), firsts(t, runs[1])}
		for k := range 40 {
			for n, run := range runs {
				if k < len(run) {
					added(t, detectors[n], run[k], second(want[n], k)...)
				}
			}
			race.All(runs[k%2])
		}
	}
}

// TestKeepsNoFrames: frames over bytes that change later, as their maker knows, change no answer.
func TestKeepsNoFrames(t *testing.T) {
	b := []byte("main")
	e := api.Event{G: 1, Kind: api.Write, Obj: 8, Arg: 1, Stack: []string{unsafe.String(&b[0], len(b))}}
	d := race.New()
	added(t, d, fork1)
	added(t, d, e)
	b[0] = 'x'
	added(t, d, write(0, 8, 1), at(1, 2))
}

// TestRefusedChangesNothing: a detector that is asked for much that it refuses says the same as one that is
// not.
func TestRefusedChangesNothing(t *testing.T) {
	r := rand.New(rand.NewSource(1901))
	seen, bad := samples.Seen{}, samples.Faults()
	for range 300 {
		run := someRun(r, 40)
		want, p := firsts(t, run), newPlain(t, run)
		d := race.New()
		for k, e := range run {
			for range 8 {
				other := samples.Move(r.Intn, 9, samples.Kinds()...)
				if r.Intn(3) == 0 {
					other = bad[r.Intn(len(bad))].Event
				}
				if _, _, fault := race.All(append(slices.Clone(run[:k]), other)); fault != api.OK {
					seen[fault]++
					if got, again := d.Add(other); len(got) != 0 || again != fault || d.Words() != p.words(k) {
						t.Fatalf("P19.3: behind %v: Add(%v) = %v, %d, want %d; Words = %d", run[:k], other, got, again, fault, d.Words())
					}
				}
			}
			added(t, d, e, second(want, k)...)
		}
	}
	if rare := seen.Rare(api.ErrBad, api.ErrKind, api.ErrG, api.ErrObj, api.ErrSize, api.ErrSite); len(rare) > 0 {
		t.Errorf("the test met the errors %v", seen)
	}
}
