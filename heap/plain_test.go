package heap_test

import (
	"slices"
	"testing"

	"hindsight/api"
	"hindsight/heap"
	"hindsight/samples"
)

func item(key, tag int) api.Item { return api.Item{Key: key, Tag: tag} }

// items are items with these keys, and their places as tags: so that no two are the same.
func items(keys ...int) []api.Item {
	list := make([]api.Item, len(keys))
	for k, key := range keys {
		list[k] = item(key, k)
	}
	return list
}

// allKeys are all lists of at most n of the keys 0, 1 and 2.
func allKeys(n int) [][]int {
	var lists [][]int
	for _, b := range samples.AllBodies(n, 0, 1, 2) {
		keys := make([]int, len(b))
		for k, key := range b {
			keys[k] = int(key)
		}
		lists = append(lists, keys)
	}
	return lists
}

// someKeys are n keys below another number.
func someKeys(pick func(below int) int, n, below int) []int {
	keys := make([]int, n)
	for k := range keys {
		keys[k] = pick(below)
	}
	return keys
}

// plainFirst is the place of the thing that comes first: of those that none is ahead of, the earliest.
func plainFirst[T api.Ranked[T]](in []T) int {
	return slices.IndexFunc(in, func(x T) bool {
		return !slices.ContainsFunc(in, func(y T) bool { return y.Before(x) })
	})
}

// plainHeap is P9.1 and P9.2, word by word: a list of what is in it, as it was put in.
type plainHeap[T api.Ranked[T]] struct{ in []T }

func (h *plainHeap[T]) push(x T) { h.in = append(h.in, x) }

func (h *plainHeap[T]) peek() (T, api.Errno) {
	if len(h.in) == 0 {
		var none T
		return none, api.ErrEmpty
	}
	return h.in[plainFirst(h.in)], api.OK
}

func (h *plainHeap[T]) pop() (T, api.Errno) {
	x, e := h.peek()
	if e == api.OK {
		k := plainFirst(h.in)
		h.in = slices.Delete(h.in, k, k+1)
	}
	return x, e
}

// plainSort is P9.3, word by word.
func plainSort[T api.Ranked[T]](l []T) []T {
	var out []T
	for h := (plainHeap[T]{slices.Clone(l)}); len(h.in) > 0; {
		x, _ := h.pop()
		out = append(out, x)
	}
	return out
}

// plainLeast is P9.5, word by word.
func plainLeast[T api.Ranked[T]](l []T, n int) []T {
	sorted := plainSort(l)
	switch {
	case n <= 0:
		return nil
	case n >= len(l):
		return sorted
	}
	return sorted[:n]
}

// plainMerge is P9.4, word by word.
func plainMerge[T api.Ranked[T]](lists [][]T) []T {
	var out []T
	at := make([]int, len(lists))
	for {
		var heads []T
		var from []int
		for k, l := range lists {
			if at[k] < len(l) {
				heads, from = append(heads, l[at[k]]), append(from, k)
			}
		}
		if len(heads) == 0 {
			return out
		}
		k := plainFirst(heads)
		out = append(out, heads[k])
		at[from[k]]++
	}
}

// isItem tells whether two items are the same one: what the calls below are handed for each type.
func isItem(x, y api.Item) bool { return x == y }

// holdsLeast asks Least for numbers around the list's own, and far from it.
func holdsLeast[T api.Ranked[T]](t *testing.T, l []T, is func(x, y T) bool) {
	t.Helper()
	numbers := []int{-1 << 63, -1 << 32, -len(l), len(l) + 1000, 1<<32 + 1, 1<<63 - 1}
	for n := -2; n <= len(l)+2; n++ {
		numbers = append(numbers, n)
	}
	for _, n := range numbers {
		if got, want := heap.Least(l, n), plainLeast(l, n); !slices.EqualFunc(got, want, is) {
			t.Fatalf("P9.5: Least(%v, %d) = %v, want %v", l, n, got, want)
		}
	}
}

// holdsSort asks all that is said of one list whose things have an order.
func holdsSort[T api.Ranked[T]](t *testing.T, l []T, is func(x, y T) bool) {
	t.Helper()
	want := plainSort(l)
	sorted := heap.Sort(l)
	if !slices.EqualFunc(sorted, want, is) {
		t.Fatalf("P9.3: Sort(%v) = %v, want %v", l, sorted, want)
	}
	if again := heap.Sort(sorted); !slices.EqualFunc(again, want, is) {
		t.Fatalf("P9.7: Sort(Sort(%v)) = %v, want %v", l, again, want)
	}
	if one := heap.Merge(l); !slices.EqualFunc(one, l, is) {
		t.Fatalf("P9.7: Merge(%v) = %v", l, one)
	}
	h := heap.New[T]()
	for k, x := range l {
		if e := h.Push(x); e != api.OK || h.Len() != k+1 {
			t.Fatalf("P9.1: Push(%v) = %d, Len %d, want %d", x, e, h.Len(), k+1)
		}
	}
	if in := h.Sorted(); !slices.EqualFunc(in, want, is) || h.Len() != len(l) {
		t.Fatalf("P9.2: Sorted() = %v, Len %d, want %v, %d", in, h.Len(), want, len(l))
	}
	if out := popAll(t, h); !slices.EqualFunc(out, want, is) {
		t.Fatalf("P9.7: pushing %v and popping is %v, want %v", l, out, want)
	}
}

// popAll pops until nothing is left, and asks Len, Peek and the error at the end.
func popAll[T api.Ranked[T]](t *testing.T, h *heap.Heap[T]) []T {
	t.Helper()
	var out []T
	for n := h.Len(); n > 0; n-- {
		_, peeked := h.Peek()
		x, e := h.Pop()
		if e != api.OK || peeked != api.OK || h.Len() != n-1 {
			t.Fatalf("P9.2: Peek and Pop with %d things: %d, %d, Len %d", n, peeked, e, h.Len())
		}
		out = append(out, x)
	}
	_, e := h.Peek()
	_, f := h.Pop()
	if e != api.ErrEmpty || f != api.ErrEmpty || h.Len() != 0 || len(h.Sorted()) != 0 {
		t.Fatalf("P9.2: a heap in which nothing is: %d, %d, Len %d", e, f, h.Len())
	}
	return out
}

// holdsMerge asks Merge, and whether it is the Sort of all where each list is in its order.
func holdsMerge[T api.Ranked[T]](t *testing.T, lists [][]T, is func(x, y T) bool) {
	t.Helper()
	if got, want := heap.Merge(lists...), plainMerge(lists); !slices.EqualFunc(got, want, is) {
		t.Fatalf("P9.4: Merge(%v) = %v, want %v", lists, got, want)
	}
	sorted := make([][]T, len(lists))
	for k, l := range lists {
		sorted[k] = plainSort(l)
	}
	if got, want := heap.Merge(sorted...), plainSort(slices.Concat(sorted...)); !slices.EqualFunc(got, want, is) {
		t.Fatalf("P9.4: Merge(%v) = %v, want the Sort of all, %v", sorted, got, want)
	}
}
