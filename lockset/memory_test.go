package lockset_test

import (
	"math/rand"
	"slices"
	"testing"
	"unsafe"

	"hindsight/api"
	"hindsight/event"
	"hindsight/lockset"
	"hindsight/samples"
)

var spoilt = suspect(77, 99, 66)

// stacked is a run with a stack at each event, each with spare room behind it.
func stacked(run []api.Event) []api.Event {
	run = slices.Clone(run)
	for k := range run {
		run[k].Stack = append(make([]string, 0, 5), "f", "main")
	}
	return run
}

// TestNothingIsChanged: what is handed in is not changed, its spare room neither, and answers are new.
func TestNothingIsChanged(t *testing.T) {
	r := rand.New(rand.NewSource(208))
	told, locked := 0, 0
	for range 300 {
		run := someRun(r, 40)
		p, want := plainly(t, run)
		whole, untouched := stacked(append(slices.Clone(run), mark, join1)), stacked(append(slices.Clone(run), mark, join1))
		trace := whole[:len(run)]
		all, _, _ := lockset.Find(trace)
		for address := range touched(run) {
			_, locks, _, _ := lockset.Guards(trace, address)
			_, again, _, _ := lockset.Guards(trace, address)
			samples.Spoil(locks, 99)
			if !slices.Equal(again, p.bytes[address].guards) {
				t.Fatalf("P20.9: of %v: Guards of %d = %v, want %v", run, address, again, p.bytes[address].guards)
			}
			guards(t, run, address, p.bytes[address].state, p.bytes[address].guards...)
			locked += len(locks)
		}
		for k := range whole {
			if !event.Same(whole[k], untouched[k]) || whole[k].Stack[:5][2] != "" {
				t.Fatalf("P20.9: the event %d of %v was changed", k, untouched)
			}
		}
		again, _, _ := lockset.Find(trace)
		samples.Spoil(all, spoilt)
		for k := range whole {
			samples.Spoil(whole[k].Stack, "spoilt")
			whole[k] = api.Event{G: 5, Kind: 99}
		}
		if !slices.Equal(again, want) {
			t.Fatalf("P20.9: of %v: Find = %v, want %v", run, again, want)
		}
		finds(t, run, want...)
		told += len(want)
	}
	if told < 1000 || locked < 300 {
		t.Errorf("the test met %d suspects and %d guards", told, locked)
	}
}

// TestAnswersAreNew: who writes over what a watcher answered, and over the room behind it, changes no other
// answer, nor do later events; nor does who changes an event behind Add.
func TestAnswersAreNew(t *testing.T) {
	r := rand.New(rand.NewSource(209))
	told := 0
	for range 300 {
		run := someRun(r, 50)
		_, want := plainly(t, run)
		careless, calm := lockset.New(), lockset.New()
		var kept [][]api.Suspect
		for k, e := range stacked(run) {
			stack := slices.Clone(e.Stack[:5])
			got, _ := careless.Add(e)
			if !slices.Equal(e.Stack[:5], stack) {
				t.Fatalf("P20.9: Add changed the stack of %v", e)
			}
			if !slices.Equal(got, at(want, k)) {
				t.Fatalf("P20.9: of %v: Add of %d = %v, want %v", run, k, got, at(want, k))
			}
			samples.Spoil(e.Stack, "spoilt")
			samples.Spoil(got, spoilt)
			told += len(got)
			other, _ := calm.Add(run[k])
			kept = append(kept, other)
		}
		for k, got := range kept {
			if !slices.Equal(got, at(want, k)) {
				t.Fatalf("P20.9: of %v: later events changed what was answered of %d: %v", run, k, got)
			}
		}
	}
	if told < 1000 {
		t.Errorf("the test met %d suspects only", told)
	}
}

// TestTwoWatchers: they have nothing to do with each other, nor with Find and Guards.
func TestTwoWatchers(t *testing.T) {
	r := rand.New(rand.NewSource(2010))
	for range 100 {
		runs := [][]api.Event{someRun(r, 40), someRun(r, 40)}
		watchers := []*lockset.Watcher{lockset.New(), lockset.New()}
		_, one := plainly(t, runs[0])
		_, other := plainly(t, runs[1])
		for k := range 40 {
			for n, want := range [][]api.Suspect{one, other} {
				if k < len(runs[n]) {
					added(t, watchers[n], runs[n][k], at(want, k)...)
				}
			}
			lockset.Find(runs[k%2])
			lockset.Guards(runs[k%2], uint64(k%10))
		}
	}
}

// TestKeepsNoFrames: frames over bytes that change later, as their maker knows, change no answer.
func TestKeepsNoFrames(t *testing.T) {
	b := []byte("main")
	e := api.Event{G: 1, Kind: api.Write, Obj: 8, Arg: 1, Stack: []string{unsafe.String(&b[0], len(b))}}
	w := lockset.New()
	added(t, w, fork1)
	added(t, w, e)
	b[0] = 'x'
	added(t, w, write(0, 8, 1), suspect(8, 2, api.Exclusive))
}

// TestRefusedChangesNothing: a watcher that is asked for much that it refuses says the same as one that is
// not.
func TestRefusedChangesNothing(t *testing.T) {
	r := rand.New(rand.NewSource(2011))
	seen, bad := samples.Seen{}, samples.Faults()
	for range 300 {
		run := someRun(r, 40)
		_, want := plainly(t, run)
		w := lockset.New()
		for k, e := range run {
			for range 8 {
				other := samples.Move(r.Intn, 9, samples.Kinds()...)
				if r.Intn(3) == 0 {
					other = bad[r.Intn(len(bad))].Event
				}
				if _, _, fault := lockset.Find(append(slices.Clone(run[:k]), other)); fault != api.OK {
					seen[fault]++
					if got, again := w.Add(other); len(got) != 0 || again != fault {
						t.Fatalf("P20.4: behind %v: Add(%v) = %v, %d, want %d", run[:k], other, got, again, fault)
					}
				}
			}
			added(t, w, e, at(want, k)...)
		}
	}
	if rare := seen.Rare(api.ErrBad, api.ErrKind, api.ErrG, api.ErrObj, api.ErrSize, api.ErrSite); len(rare) > 0 {
		t.Errorf("the test met the errors %v", seen)
	}
}
