package heap_test

import (
	"math/rand"
	"slices"
	"testing"

	"hindsight/api"
	"hindsight/heap"
)

// holds asks a heap everything that does not change it.
func holds[T api.Ranked[T]](t *testing.T, h *heap.Heap[T], plain *plainHeap[T], is func(x, y T) bool) {
	t.Helper()
	x, e := h.Peek()
	want, wantE := plain.peek()
	if !is(x, want) || e != wantE {
		t.Fatalf("P9.2: Peek() = %v, %d, want %v, %d", x, e, want, wantE)
	}
	if l, want := h.Sorted(), plainSort(plain.in); !slices.EqualFunc(l, want, is) {
		t.Fatalf("P9.2: Sorted() = %v, want %v", l, want)
	}
	if h.Len() != len(plain.in) {
		t.Fatalf("P9.1: Len() = %d, want %d", h.Len(), len(plain.in))
	}
}

// pushes puts one thing into both.
func pushes[T api.Ranked[T]](t *testing.T, h *heap.Heap[T], plain *plainHeap[T], x T) {
	t.Helper()
	plain.push(x)
	if e := h.Push(x); e != api.OK || h.Len() != len(plain.in) {
		t.Fatalf("P9.1: Push(%v) = %d, Len %d, want %d", x, e, h.Len(), len(plain.in))
	}
}

// pops takes one thing out of both.
func pops[T api.Ranked[T]](t *testing.T, h *heap.Heap[T], plain *plainHeap[T], is func(x, y T) bool) {
	t.Helper()
	want, wantE := plain.pop()
	if x, e := h.Pop(); !is(x, want) || e != wantE || h.Len() != len(plain.in) {
		t.Fatalf("P9.2: Pop() = %v, %d, Len %d, want %v, %d, %d", x, e, h.Len(), want, wantE, len(plain.in))
	}
}

// step does what a number says: 0 to 2 push an item with that key, 3 pops.
func step(t *testing.T, h *heap.Heap[api.Item], plain *plainHeap[api.Item], what, tag int) {
	t.Helper()
	if what == 3 {
		pops(t, h, plain, isItem)
		return
	}
	pushes(t, h, plain, item(what, tag))
}

func TestHeapExample(t *testing.T) {
	h := heap.New[api.Item]()
	for _, x := range []api.Item{item(5, 1), item(3, 2), item(5, 3), item(3, 4)} {
		if e := h.Push(x); e != api.OK {
			t.Errorf("P9.1: Push(%v) = %d", x, e)
		}
	}
	if h.Len() != 4 {
		t.Errorf("P9.1: Len() = %d", h.Len())
	}
	if x, e := h.Peek(); x != item(3, 2) || e != api.OK {
		t.Errorf("P9.2: Peek() = %v, %d", x, e)
	}
	for _, want := range []api.Item{item(3, 2), item(3, 4), item(5, 1), item(5, 3)} {
		if x, e := h.Pop(); x != want || e != api.OK {
			t.Errorf("P9.2: Pop() = %v, %d, want %v", x, e, want)
		}
	}
	if x, e := h.Pop(); x != (api.Item{}) || e != api.ErrEmpty {
		t.Errorf("P9.2: Pop() of nothing = %v, %d", x, e)
	}
}

// TestNothingIn: a new heap, one that became empty, and one that New did not make.
func TestNothingIn(t *testing.T) {
	emptied := heap.New[api.Item]()
	emptied.Push(item(7, 7))
	emptied.Pop()
	for name, h := range map[string]*heap.Heap[api.Item]{"new": heap.New[api.Item](), "emptied": emptied, "zero": {}} {
		if h == nil {
			t.Fatalf("P0.6: New() = nil")
		}
		for range 2 {
			x, e := h.Peek()
			y, f := h.Pop()
			if x != (api.Item{}) || y != x || e != api.ErrEmpty || f != api.ErrEmpty || h.Len() != 0 || len(h.Sorted()) != 0 {
				t.Errorf("P9.2: %s: %v, %d; %v, %d; Len %d; %v", name, x, e, y, f, h.Len(), h.Sorted())
			}
		}
		h.Push(item(2, 1))
		h.Push(item(1, 2))
		if l := h.Sorted(); !slices.Equal(l, []api.Item{item(1, 2), item(2, 1)}) {
			t.Errorf("P9.2: %s: behind two Pushes %v", name, l)
		}
	}
}

// TestAllHeaps goes through all rows of seven Pushes and Pops, with three keys.
func TestAllHeaps(t *testing.T) {
	for row := range 1 << 14 {
		h, plain := heap.New[api.Item](), &plainHeap[api.Item]{}
		for k := range 7 {
			step(t, h, plain, row>>(2*k)&3, k)
			holds(t, h, plain, isItem)
		}
	}
}

// TestManyHeaps: longer rows, in some of which the heap grows, in others it is often empty.
func TestManyHeaps(t *testing.T) {
	r := rand.New(rand.NewSource(9))
	for range 300 {
		h, plain := heap.New[api.Item](), &plainHeap[api.Item]{}
		keys, most := 1+r.Intn(20), 2+r.Intn(8)
		for k := range 200 {
			if r.Intn(most) == 0 || most < 4 && r.Intn(2) == 0 {
				pops(t, h, plain, isItem)
			} else {
				pushes(t, h, plain, item(r.Intn(keys), k))
			}
			if k%20 == 0 {
				holds(t, h, plain, isItem)
			}
		}
		holds(t, h, plain, isItem)
	}
}

// TestAlikeInTheirTurn: alike things come as they were put in, also when others came and went between.
func TestAlikeInTheirTurn(t *testing.T) {
	h := heap.New[api.Item]()
	tag, next := 0, 0
	for round := range 100 {
		for range 1 + round%7 {
			h.Push(item(4, tag))
			h.Push(item(3, -1))
			tag++
		}
		for {
			x, _ := h.Pop()
			if x.Tag < 0 {
				continue
			}
			if x != item(4, next) {
				t.Fatalf("P9.2: Pop() = %v, want %v", x, item(4, next))
			}
			next++
			break
		}
	}
	for k, x := range h.Sorted() {
		if x != item(4, next+k) {
			t.Fatalf("P9.2: Sorted() has %v at %d, want the tag %d", x, k, next+k)
		}
	}
}

// TestTwoHeaps: what is done to one is not seen in the other.
func TestTwoHeaps(t *testing.T) {
	r := rand.New(rand.NewSource(10))
	one, other := heap.New[api.Item](), heap.New[api.Item]()
	plainOne, plainOther := &plainHeap[api.Item]{}, &plainHeap[api.Item]{}
	for k := range 500 {
		if r.Intn(2) == 0 {
			step(t, one, plainOne, r.Intn(4), k)
		} else {
			step(t, other, plainOther, r.Intn(4), k)
		}
		if k%25 == 0 {
			holds(t, one, plainOne, isItem)
			holds(t, other, plainOther, isItem)
		}
	}
}

// noHeap asks a nil heap of some type.
func noHeap[T api.Ranked[T]](t *testing.T, thing, zero T, is func(x, y T) bool) {
	t.Helper()
	var none *heap.Heap[T]
	for range 2 {
		x, e := none.Pop()
		y, f := none.Peek()
		if !is(x, zero) || !is(y, zero) || e != api.ErrNil || f != api.ErrNil {
			t.Errorf("P9.8: a nil heap: Pop() = %v, %d, Peek() = %v, %d", x, e, y, f)
		}
		if g := none.Push(thing); g != api.ErrNil || none.Len() != 0 || len(none.Sorted()) != 0 {
			t.Errorf("P9.8: a nil heap: Push = %d, Len %d, Sorted %v", g, none.Len(), none.Sorted())
		}
	}
}

func TestNoHeap(t *testing.T) {
	noHeap(t, item(1, 2), api.Item{}, isItem)
	noHeap(t, api.Rec{Stamp: 3}, api.Rec{}, func(x, y api.Rec) bool { return x == y })
	noHeap(t, &note{3, 4}, nil, func(x, y *note) bool { return x == y })
	noHeap[ranked](t, low{3, 4}, nil, func(x, y ranked) bool { return x == y })
	noHeap(t, word("a"), "", func(x, y word) bool { return x == y })
}
