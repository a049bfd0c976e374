package clock_test

import (
	"bytes"
	"math/rand"
	"slices"
	"testing"

	"hindsight/api"
	"hindsight/clock"
	"hindsight/samples"
)

// call is a call of the package, of two clocks or of one; what it answers besides a list counts for nothing here.
type call struct {
	name string
	ask  func(a, b []api.Tick) []api.Tick
}

// listCalls are the calls that answer a clock.
func listCalls() []call {
	set := func(g, n int) func(a, b []api.Tick) []api.Tick {
		return func(a, b []api.Tick) []api.Tick {
			c, _ := clock.Set(a, g, n)
			return c
		}
	}
	return []call{
		{"Set, what is in it", func(a, b []api.Tick) []api.Tick {
			if len(a) == 0 {
				return nil
			}
			return set(a[0].G, a[0].T)(a, b)
		}},
		{"Set to 0", set(2, 0)}, {"Set 0", set(0, 9)}, {"Set between", set(4, 9)}, {"Set the last", set(maxG-1, 9)}, {"Set wrong", set(-1, 9)},
		{"Join", func(a, b []api.Tick) []api.Tick { c, _ := clock.Join(a, b); return c }},
		{"Meet", func(a, b []api.Tick) []api.Tick { c, _ := clock.Meet(a, b); return c }},
	}
}

// otherCalls are those that answer none.
func otherCalls() []call {
	return []call{
		{"Good", func(a, b []api.Tick) []api.Tick { clock.Good(a); return nil }},
		{"Get", func(a, b []api.Tick) []api.Tick { clock.Get(a, 2); return nil }},
		{"Leq", func(a, b []api.Tick) []api.Tick { clock.Leq(a, b); return nil }},
		{"Apart", func(a, b []api.Tick) []api.Tick { clock.Apart(a, b); return nil }},
		{"Encode", func(a, b []api.Tick) []api.Tick { clock.Encode(a); return nil }},
	}
}

// roomy is a list with spare room behind it, and that list with its room.
func roomy(c []api.Tick) (list, whole []api.Tick) {
	whole = slices.Concat(c, of(3, 33, -7, 77, 5, 55, 2, 22))
	return whole[:len(c)], whole
}

// lists are clocks, and such as are none.
func lists() [][]api.Tick {
	return slices.Concat(goodLists(), badLists(), [][]api.Tick{of(0, 1, 2, 5, 3, 1, 9, 4), of(1, 1, 2, 4, 3, 7)})
}

// TestHandedInStays: neither a list nor the room behind it is changed.
func TestHandedInStays(t *testing.T) {
	for _, c := range append(listCalls(), otherCalls()...) {
		for _, a := range lists() {
			for _, b := range lists() {
				first, wholeFirst := roomy(a)
				second, wholeSecond := roomy(b)
				c.ask(first, second)
				_, wantFirst := roomy(a)
				_, wantSecond := roomy(b)
				if !slices.Equal(wholeFirst, wantFirst) || !slices.Equal(wholeSecond, wantSecond) {
					t.Fatalf("P17.11: %s of %v and %v made %v and %v of them", c.name, a, b, wholeFirst, wholeSecond)
				}
			}
		}
	}
}

// TestAnswerIsNew: what is handed in, and another answer, are written over behind the call; and the other way round.
func TestAnswerIsNew(t *testing.T) {
	spoilt := api.Tick{G: 99, T: 99}
	for _, c := range listCalls() {
		for _, a := range lists() {
			for _, b := range lists() {
				want := slices.Clone(c.ask(slices.Clone(a), slices.Clone(b)))
				first, wholeFirst := roomy(a)
				second, wholeSecond := roomy(b)
				one, other := c.ask(first, second), c.ask(first, second)
				samples.Spoil(other, spoilt)
				if !slices.Equal(one, want) {
					t.Fatalf("P0.5: two answers of %s of %v and %v share memory", c.name, a, b)
				}
				_, wantFirst := roomy(a)
				_, wantSecond := roomy(b)
				if !slices.Equal(wholeFirst, wantFirst) || !slices.Equal(wholeSecond, wantSecond) {
					t.Fatalf("P17.11: the answer of %s of %v and %v shares memory with what was handed in", c.name, a, b)
				}
				samples.Spoil(wholeFirst, spoilt)
				samples.Spoil(wholeSecond, spoilt)
				if !slices.Equal(one, want) {
					t.Fatalf("P17.11: %s of %v and %v keeps what was handed in", c.name, a, b)
				}
			}
		}
	}
}

// TestOneListTwice: both clocks in one piece of memory, the same or overlapping.
func TestOneListTwice(t *testing.T) {
	r := rand.New(rand.NewSource(177))
	for range 200 {
		c := someClock(r.Intn, 10, 30)
		was := slices.Clone(c)
		from, to := r.Intn(len(c)+1), r.Intn(len(c)+1)
		holdsTwo(t, c, c)
		holdsTwo(t, c[from:], c[:to])
		holdsTwo(t, c[:to], c[from:])
		for _, x := range listCalls() {
			samples.Spoil(x.ask(c, c), api.Tick{G: 99, T: 99})
			samples.Spoil(x.ask(c[from:], c[from:]), api.Tick{G: 99, T: 99})
			if !slices.Equal(c, was) {
				t.Fatalf("P17.11: an answer of %s of %v twice shares memory with it", x.name, was)
			}
		}
	}
}

// TestBytesAreNew: Encode's bytes have nothing to do with the clock, nor Decode's clock with the bytes.
func TestBytesAreNew(t *testing.T) {
	r := rand.New(rand.NewSource(178))
	for range 200 {
		c := someClock(r.Intn, r.Intn(20), maxG)
		was := slices.Clone(c)
		one, _ := clock.Encode(c)
		other, _ := clock.Encode(c)
		want := bytes.Clone(one)
		samples.Spoil(other, 77)
		samples.Spoil(c, api.Tick{G: 99, T: 99})
		if !bytes.Equal(one, want) {
			t.Fatalf("P17.11: the bytes of %v share memory", was)
		}
		list, whole := samples.Roomy([][]byte{want, want[:len(want)-1], append(bytes.Clone(want), 0)})
		_, untouched := samples.Roomy([][]byte{want, want[:len(want)-1], append(bytes.Clone(want), 0)})
		for _, b := range list {
			clock.Decode(b)
		}
		first, _ := clock.Decode(list[0])
		second, _ := clock.Decode(list[0])
		samples.Spoil(second, api.Tick{G: 99, T: 99})
		for k := range whole {
			if !bytes.Equal(whole[k], untouched[k]) {
				t.Fatalf("P17.11: Decode changed the bytes %v to %v", untouched[k], whole[k])
			}
			samples.Spoil(whole[k], 77)
		}
		if !slices.Equal(first, was) {
			t.Fatalf("P17.11: the clock %v, which was read, became %v", was, first)
		}
	}
}

// TestEmptyAndNil: an empty clock and none are the same to every call.
func TestEmptyAndNil(t *testing.T) {
	empty := make([]api.Tick, 0, 3)
	for _, c := range listCalls() {
		for _, d := range lists() {
			if !slices.Equal(c.ask(nil, d), c.ask(empty, d)) || !slices.Equal(c.ask(d, nil), c.ask(d, empty)) {
				t.Errorf("P0.5: %s of no clock and of an empty one, with %v", c.name, d)
			}
		}
	}
	for _, d := range lists() {
		for _, none := range [][]api.Tick{nil, empty} {
			holdsTwo(t, none, d)
			holdsTwo(t, d, none)
		}
	}
	holdsOne(t, empty, edgesOfG(), edgesOfT())
}
