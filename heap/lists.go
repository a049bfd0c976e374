package heap

import (
	"slices"

	"hindsight/api"
)

// Sort answers things in their order; those that are alike stay in theirs.
func Sort[T api.Ranked[T]](l []T) []T { return Least(l, len(l)) }

// Least answers the first n.
func Least[T api.Ranked[T]](l []T, n int) []T {
	h := New[T]()
	for _, x := range l {
		h.Push(x)
	}
	return h.takeFirst(min(max(n, 0), len(l)))
}

// Merge puts lists together, always the first of the heads.
func Merge[T api.Ranked[T]](lists ...[]T) []T {
	heads, left := New[T](), slices.Clone(lists)
	for k := range left {
		heads.putHead(left, k)
	}
	var merged []T
	for heads.Len() > 0 {
		head := heads.take()
		merged = append(merged, head.thing)
		heads.putHead(left, head.turn)
	}
	return merged
}

// putHead moves the first thing that is left of a list to the heap, if there is one. Its turn is the
// list's place: of alike heads that of the earliest list comes first, whenever it was put in.
func (h *Heap[T]) putHead(left [][]T, k int) {
	if len(left[k]) == 0 {
		return
	}
	h.put(entry[T]{left[k][0], k})
	left[k] = left[k][1:]
}

// Ints sorts numbers.
func Ints(l []int) []int { return slices.Sorted(slices.Values(l)) }
