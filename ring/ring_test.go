package ring_test

import (
	"bytes"
	"math"
	"math/rand"
	"slices"
	"strings"
	"testing"

	"hindsight/api"
	"hindsight/file"
	"hindsight/ring"
	"hindsight/samples"
)

func TestSizes(t *testing.T) {
	for _, size := range []int{0, -1, -3, -65536, 65537, 65538, 1 << 20, 1<<32 + 3, math.MinInt, math.MaxInt} {
		if r, e := ring.New(size); r != nil || e != api.ErrRing {
			t.Errorf("P15.1: New(%d) = %v, %d, want nil, 150", size, r, e)
		}
	}
	for _, size := range []int{1, 2, 3, 65535, 65536} {
		r, e := ring.New(size)
		if r == nil || e != api.OK {
			t.Errorf("P15.1: New(%d) = %v, %d, want OK", size, r, e)
		}
		if r.Len() != 0 || r.Lost() != 0 || len(r.Snapshot()) != 0 || len(r.Window(5)) != 0 {
			t.Errorf("P15.1: a new ring of %d has taken something", size)
		}
	}
}

// is holds a ring against what it must answer, word for word.
func is(t *testing.T, r *ring.Ring, lost int, held ...api.Event) {
	t.Helper()
	if r.Len() != len(held) || r.Lost() != lost {
		t.Errorf("P15.3: Len %d, Lost %d, want %d, %d", r.Len(), r.Lost(), len(held), lost)
	}
	if got := r.Snapshot(); !same(got, held) {
		t.Errorf("P15.4: Snapshot = %v, want %v", got, held)
	}
}

func windowIs(t *testing.T, r *ring.Ring, n int, want ...api.Event) {
	t.Helper()
	if got := r.Window(n); !same(got, want) {
		t.Errorf("P15.6: Window(%d) = %v, want %v", n, got, want)
	}
}

func TestExamples(t *testing.T) {
	r, _ := ring.New(3)
	is(t, r, 0)
	windowIs(t, r, 5)
	for k, e := range []api.Event{mark(0, 1), mark(1, 2), mark(0, 3)} {
		if fault := r.Emit(e); fault != api.OK {
			t.Errorf("P15.2: Emit of the event %d = %d", k, fault)
		}
	}
	is(t, r, 0, mark(0, 1), mark(1, 2), mark(0, 3))
	if fault := r.Emit(mark(0, 4)); fault != api.OK {
		t.Errorf("P15.2: Emit = %d", fault)
	}
	held := []api.Event{mark(1, 2), mark(0, 3), mark(0, 4)}
	is(t, r, 1, held...)
	windowIs(t, r, 1, mark(1, 2), mark(0, 4))
	windowIs(t, r, 2, held...)
	windowIs(t, r, 3, held...)
	windowIs(t, r, 0)
	windowIs(t, r, -1)

	if fault := r.Emit(api.Event{}); fault != api.ErrKind {
		t.Errorf("P15.2: Emit of the kind 0 = %d", fault)
	}
	is(t, r, 1, held...)

	got, e := r.File(64)
	want, _ := file.Record(held, 64)
	if e != api.OK || len(want) == 0 || !bytes.Equal(got, want) {
		t.Errorf("P15.5: File(64) = %v, %d, want %v", got, e, want)
	}
	if got, e := r.File(63); e != api.ErrArg || len(got) != 0 {
		t.Errorf("P15.5: File(63) = %v, %d, want ErrArg", got, e)
	}
}

func TestRingOfOne(t *testing.T) {
	r, _ := ring.New(1)
	is(t, r, 0)
	for k := range 9 {
		if fault := r.Emit(mark(k%2, k)); fault != api.OK {
			t.Fatalf("P15.2: Emit = %d", fault)
		}
		is(t, r, k, mark(k%2, k))
		windowIs(t, r, 0)
		windowIs(t, r, 1, mark(k%2, k))
		windowIs(t, r, 2, mark(k%2, k))
	}
}

// TestGoneRound: every size up to 12, with each number of events from none to several times round.
func TestGoneRound(t *testing.T) {
	for size := 1; size <= 12; size++ {
		p := newPair(t, size)
		p.all(64, 0, 1, 2, 99)
		for k := range 5*size + 2 {
			p.emit(api.Event{G: k % 3, Kind: api.Mark, Obj: uint64(k), Arg: uint64(7 * k), Stack: slices.Repeat([]string{"f"}, k%4)})
			p.all(64+k, -1, 0, 1, 2, 3, size-1, size, size+1)
		}
	}
}

// bad are events that may not be: one for each error of event.Check, with later ones beside it.
func bad() map[api.Errno][]api.Event {
	long := strings.Repeat("x", api.MaxSite+1)
	return map[api.Errno][]api.Event{
		api.ErrKind: {{}, {Kind: 23}, {Kind: -1, G: -1, Stack: make([]string, 17)}},
		api.ErrG:    {{Kind: api.Mark, G: -1}, {Kind: api.Fork, G: api.MaxG, Obj: 1}},
		api.ErrObj:  {{Kind: api.Fork, Obj: 1}, {Kind: api.Read, Obj: math.MaxUint64, Arg: 2, Stack: []string{long}}},
		api.ErrSize: {{Kind: api.Read, Obj: 1}, {Kind: api.Fork}, {Kind: api.Acquire, Arg: 1, Stack: []string{long}}},
		api.ErrSite: {{Kind: api.Mark, Stack: make([]string, 17)}, {Kind: api.Mark, Stack: []string{"f", long}}},
	}
}

// TestBadEvents: into a ring that is empty, partly full, just full, and gone round; all stays as it was,
// and it goes on from there as if nothing had been told.
func TestBadEvents(t *testing.T) {
	for want, events := range bad() {
		for _, e := range events {
			for ahead := range 9 {
				p := newPair(t, 3)
				for k := range ahead {
					p.emit(mark(k%2, k))
				}
				for range 4 {
					if fault := p.emit(e); fault != want {
						t.Errorf("P15.2: Emit(%v) = %d, want %d", e, fault, want)
					}
					p.all(64, 0, 1, 2, 3)
				}
				p.emit(mark(1, 100))
				p.all(64, 0, 1, 2, 3)
			}
		}
	}
}

// TestGreatestStack: just what event.Check still takes is held whole.
func TestGreatestStack(t *testing.T) {
	long := strings.Repeat("x", api.MaxSite)
	p := newPair(t, 2)
	for k := range 4 {
		e := api.Event{G: api.MaxG - 1, Kind: api.Mark, Obj: math.MaxUint64, Arg: math.MaxUint64 - uint64(k), Stack: make([]string, api.MaxDepth)}
		e.Stack[k] = long
		if fault := p.emit(e); fault != api.OK {
			t.Errorf("P15.2: Emit of the greatest event = %d", fault)
		}
		p.all(api.MaxLimit, 1, 2)
	}
}

// TestEveryKind: what a kind means is nothing to a ring; a trace in it need not be a run.
func TestEveryKind(t *testing.T) {
	p := newPair(t, 5)
	for kind := range 24 {
		for _, arg := range []uint64{0, 1} {
			p.emit(api.Event{G: 4, Kind: kind, Arg: arg})
			p.all(64, 1, 4)
		}
	}
	if len(p.plain.all) < 22 {
		t.Errorf("the test emits %d good events alone", len(p.plain.all))
	}
}

// TestManyActs: good events and bad ones in any order, asked at any time or never.
func TestManyActs(t *testing.T) {
	r := rand.New(rand.NewSource(15))
	wrong, seen := slices.Concat(bad()[api.ErrKind], bad()[api.ErrG], bad()[api.ErrObj], bad()[api.ErrSize], bad()[api.ErrSite]), samples.Seen{}
	for range 600 {
		p := newPair(t, 1+r.Intn(20))
		goroutines := 1 + r.Intn(6)
		for range r.Intn(80) {
			switch r.Intn(12) {
			case 0:
				seen[p.emit(wrong[r.Intn(len(wrong))])]++
			case 1:
				p.snapshot()
			case 2:
				p.counts()
			case 3:
				p.window(r.Intn(12) - 2)
			case 4:
				seen[p.file(samples.Limit(r.Intn))]++
			case 5:
				seen[p.file(r.Intn(140)-5)]++
			default:
				p.emit(samples.Event(r.Intn, goroutines))
			}
		}
		p.all(samples.Limit(r.Intn), 0, 1, 2, 5, 100)
	}
	if rare := seen.Rare(api.OK, api.ErrKind, api.ErrG, api.ErrObj, api.ErrSize, api.ErrSite, api.ErrArg); len(rare) > 0 {
		t.Errorf("seldom answered: %v", rare)
	}
}

// TestGreaterRing: of rings of all sizes that are told the same, each smaller one holds the end of each
// greater one; each the end of all that was taken.
func TestGreaterRing(t *testing.T) {
	r := rand.New(rand.NewSource(157))
	for range 10 {
		var rings []*ring.Ring
		for size := 1; size <= 16; size++ {
			x, _ := ring.New(size)
			rings = append(rings, x)
		}
		var taken []api.Event
		for range 60 {
			e := samples.Event(r.Intn, 4)
			if r.Intn(5) == 0 {
				e.Kind = 0
			} else {
				taken = append(taken, e)
			}
			var smaller []api.Event
			for _, x := range rings {
				x.Emit(e)
				held := x.Snapshot()
				if x.Len()+x.Lost() != len(taken) || len(held) != x.Len() || !same(held, taken[len(taken)-x.Len():]) {
					t.Fatalf("P15.7: Len %d, Lost %d, Snapshot %v behind %v", x.Len(), x.Lost(), held, taken)
				}
				if len(held) < len(smaller) || !same(held[len(held)-len(smaller):], smaller) {
					t.Fatalf("P15.7: a greater ring holds %v, a smaller one %v", held, smaller)
				}
				smaller = held
			}
		}
	}
}

// TestTwoRings: two rings have nothing to do with each other.
func TestTwoRings(t *testing.T) {
	r := rand.New(rand.NewSource(158))
	for range 50 {
		one, other := newPair(t, 1+r.Intn(6)), newPair(t, 1+r.Intn(6))
		for range 40 {
			which := one
			if r.Intn(3) == 0 {
				which = other
			}
			which.emit(samples.Event(r.Intn, 3))
			one.all(64, 1, 2)
			other.all(64, 1, 2)
		}
	}
}

// TestNoRing: a nil ring, and one that New did not make.
func TestNoRing(t *testing.T) {
	var none *ring.Ring
	for name, r := range map[string]*ring.Ring{"nil": none, "zero": {}} {
		for _, e := range []api.Event{mark(0, 1), {}, {Kind: api.Mark, G: -1}} {
			if fault := r.Emit(e); fault != api.ErrNil {
				t.Errorf("P15.8: a %s ring: Emit(%v) = %d, want 1", name, e, fault)
			}
		}
		if r.Len() != 0 || r.Lost() != 0 || len(r.Snapshot()) != 0 {
			t.Errorf("P15.8: a %s ring: Len %d, Lost %d, Snapshot %v", name, r.Len(), r.Lost(), r.Snapshot())
		}
		for _, n := range []int{-1, 0, 1, 64, math.MinInt, math.MaxInt} {
			if got := r.Window(n); len(got) != 0 {
				t.Errorf("P15.8: a %s ring: Window(%d) = %v", name, n, got)
			}
			if b, e := r.File(n); len(b) != 0 || e != api.ErrNil {
				t.Errorf("P15.8: a %s ring: File(%d) = %v, %d, want 1", name, n, b, e)
			}
		}
	}
}
