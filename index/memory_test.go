package index_test

import (
	"bytes"
	"slices"
	"testing"

	"hindsight/api"
	"hindsight/index"
	"hindsight/samples"
)

// asks is all that is asked below of an index of deep.
func asks(x *index.Index) {
	x.Spots()
	x.Goroutines()
	x.Events(3)
	x.Read(2, 9)
	x.Of(3, 1, 4)
}

// stands holds all answers of an index of deep against the plain ones.
func stands(t *testing.T, x *index.Index) {
	t.Helper()
	_, p := built(t, deep(), 64)
	p.touched = x.Touched()
	tells(t, x, p, 0, 3, 5)
	reads(t, x, p, 0, len(p.trace))
	for _, g := range p.goroutines() {
		finds(t, x, p, g, 0, len(p.trace))
	}
}

func TestBuildLeaves(t *testing.T) {
	b := recorded(t, deep(), 64)
	files := [][]byte{b, b[:len(b)-1], nil, recorded(t, nil, 64)}
	lists, whole := samples.Roomy(files)
	_, want := samples.Roomy(files)
	for _, b := range lists {
		if x, e := index.Build(b); e == api.OK {
			asks(x)
		}
	}
	if !slices.EqualFunc(whole, want, bytes.Equal) {
		t.Errorf("P12.8: Build, or an index, changed the bytes, or the room behind them")
	}
}

// TestBuildKeepsNothing: the bytes change behind Build, ahead of the first question and behind it.
func TestBuildKeepsNothing(t *testing.T) {
	b := recorded(t, deep(), 64)
	x, _ := index.Build(b)
	samples.Spoil(b, 99)
	stands(t, x)

	b = recorded(t, deep(), 64)
	y, _ := index.Build(b)
	asks(y)
	clear(b)
	stands(t, y)
	stands(t, x)
}

// TestListsAreNew: lists are written over with their room, and the next ones stand.
func TestListsAreNew(t *testing.T) {
	x, _ := built(t, deep(), 64)
	for range 2 {
		spots, gs := x.Spots(), x.Goroutines()
		_ = append(spots, api.Spot{Kind: 9})
		samples.Spoil(spots, api.Spot{Kind: 7})
		_ = append(gs, 9)
		samples.Spoil(gs, 77)
		_, stamps, _ := x.Of(3, 0, 100)
		_ = append(stamps, 9)
		samples.Spoil(stamps, 77)
		stands(t, x)
	}
}

// spoilsAll writes over events and their stacks, one behind the other; those behind must stand.
func spoilsAll(t *testing.T, what string, events []api.Event) {
	t.Helper()
	want := slices.Clone(events)
	for k := range want {
		want[k].Stack = slices.Clone(want[k].Stack)
	}
	for k, e := range events {
		if !sameTrace(events[k:], want[k:]) {
			t.Fatalf("P12.8: %s: an event from %d on shares its stack with one ahead of it", what, k)
		}
		_ = append(e.Stack, "behind")
		samples.Spoil(e.Stack, "spoilt")
	}
	samples.Spoil(events, api.Event{G: 77})
}

// TestEventsAreNew: events are written over, and answers that were given ahead of that stand, and those that
// come behind it.
func TestEventsAreNew(t *testing.T) {
	trace := deep()
	for k := range trace {
		trace[k].Stack = []string{"f", "main"} // all have one stack
	}
	x, p := built(t, trace, 64)
	read, _ := x.Read(1, 9)
	readAgain, _ := x.Read(1, 9)
	of, _, _ := x.Of(3, 0, 9)
	ofAgain, _, _ := x.Of(3, 0, 9)
	spoilsAll(t, "Read", read)
	spoilsAll(t, "Of", of)
	want, _ := p.read(1, 9)
	wantOf, _, _ := p.of(3, 0, 9)
	if !sameTrace(readAgain, want) || !sameTrace(ofAgain, wantOf) {
		t.Errorf("P12.8: two answers share memory")
	}
	p.touched = x.Touched()
	asksAll(t, x, p, 0, 3, 5)
}

// TestApart: two indexes of one file, and of unlike ones, have nothing to do with each other.
func TestApart(t *testing.T) {
	b := recorded(t, deep(), 64)
	x, _ := index.Build(b)
	y, _ := index.Build(b)
	_, one := built(t, deep(), 64)
	_, other := built(t, deep(), 64)
	z, third := built(t, marks(0, 1, 1), 64)
	for k := range len(deep()) {
		reads(t, x, one, k/2, k)
		touches(t, y, other, "a Read of another index")
		finds(t, y, other, 3, 0, k)
		touches(t, x, one, "an Of of another index")
		reads(t, z, third, 0, k%5)
	}
	copied := *x
	finds(t, x, one, 3, 0, 1)
	copied.Read(0, 0)
	touches(t, x, one, "a Read of a copy")
}

// TestTouchedStays: neither a question nor a call that is refused changes what Touched tells.
func TestTouchedStays(t *testing.T) {
	x, p := built(t, deep(), 64)
	n := len(p.trace)
	for _, ask := range []func(){
		func() { reads(t, x, p, 0, n) },
		func() { finds(t, x, p, 3, 2, 5) },
		func() { reads(t, x, p, 3, 3) },
		func() { finds(t, x, p, 3, 1, 0) },
		func() { finds(t, x, p, 5, p.events(5), 9) },
		func() { reads(t, x, p, 2, 3) },
	} {
		ask()
		touched := x.Touched()
		for _, k := range edges(n) {
			x.Read(k, -1)
			x.Read(n+1, k)
			x.Of(1, k, k)
			x.Of(3, n+1, k)
			x.Of(3, 0, -1)
			x.Events(k)
			x.Spots()
			x.Goroutines()
			if got := x.Touched(); got != touched {
				t.Fatalf("P12.6: Touched() = %d behind calls that were refused, want %d", got, touched)
			}
		}
	}
}
