package heap_test

import (
	"runtime"
	"slices"
	"testing"
	"weak"

	"hindsight/api"
	"hindsight/heap"
	"hindsight/samples"
)

// answers are what each call that takes lists makes of one.
func answers(l []api.Item) [][]api.Item {
	return [][]api.Item{
		heap.Sort(l), heap.Merge(l), heap.Merge(l, nil), heap.Merge(nil, l), heap.Merge(l[:2], l[2:]),
		heap.Least(l, 2), heap.Least(l, len(l)), heap.Least(l, len(l)+9), heap.Least(l, 0),
	}
}

func sameAnswers(a, b [][]api.Item) bool { return slices.EqualFunc(a, b, slices.Equal) }

// TestListsStay: neither a list is changed, nor the room behind it, be it in its order or not.
func TestListsStay(t *testing.T) {
	for _, keys := range [][]int{{3, 1, 2, 1, 9, 0, 0}, {0, 1, 2, 3, 4, 5, 0}, {6, 5, 4, 3, 2, 9, 0}} {
		room := items(keys...)
		answers(room[:5])
		if !slices.Equal(room, items(keys...)) {
			t.Errorf("P9.8: a list was changed, or the room behind it: %v", room)
		}
		numbers := slices.Clone(keys)
		heap.Ints(numbers[:5])
		if !slices.Equal(numbers, keys) {
			t.Errorf("P9.8: Ints changed its list, or the room behind it: %v", numbers)
		}
	}
}

// TestListOfListsStays: Merge does not use up the lists that it is handed.
func TestListOfListsStays(t *testing.T) {
	lists := tagged([]int{1, 4}, nil, []int{2, 0, 3}, []int{7})
	heap.Merge(lists[:3]...)
	if !sameAnswers(lists, tagged([]int{1, 4}, nil, []int{2, 0, 3}, []int{7})) {
		t.Errorf("P9.8: the lists that Merge was handed are %v", lists)
	}
}

// TestListsNotKept: the lists are written over behind the call, and the answers stand.
func TestListsNotKept(t *testing.T) {
	l := items(3, 1, 2, 1, 9)
	want := answers(items(3, 1, 2, 1, 9))
	got := answers(l)
	samples.Spoil(l, item(77, 77))
	if !sameAnswers(got, want) {
		t.Errorf("P9.8: an answer shares memory with what was handed in: %v, want %v", got, want)
	}
	numbers := []int{3, 1, 2}
	sorted := heap.Ints(numbers)
	samples.Spoil(numbers, 77)
	if !slices.Equal(sorted, []int{1, 2, 3}) {
		t.Errorf("P9.8: Ints shares memory with what it was handed: %v", sorted)
	}
}

// TestAnswersAreNew writes over one answer after the other, with the room behind it.
func TestAnswersAreNew(t *testing.T) {
	l := items(3, 1, 2, 1, 9)
	want := answers(items(3, 1, 2, 1, 9))
	one, other := answers(l), answers(l)
	for k := range one {
		if !sameAnswers(one[k:], want[k:]) {
			t.Errorf("P9.8: an answer from %d on shares memory with one ahead of it: %v", k, one)
		}
		samples.Spoil(one[k], item(99, 99))
	}
	if !sameAnswers(other, want) || !slices.Equal(l, items(3, 1, 2, 1, 9)) {
		t.Errorf("P9.8: an answer shares memory with another one, or with what was handed in: %v, %v", other, l)
	}
	numbers := []int{2, 1}
	first, second := heap.Ints(numbers), heap.Ints(numbers)
	samples.Spoil(first, 99)
	if !slices.Equal(second, []int{1, 2}) || !slices.Equal(numbers, []int{2, 1}) {
		t.Errorf("P9.8: Ints answers memory that is not new: %v, %v", second, numbers)
	}
}

// TestSortedIsNew: what Sorted answers is written over while the heap goes on.
func TestSortedIsNew(t *testing.T) {
	h, plain := heap.New[api.Item](), &plainHeap[api.Item]{}
	for k := range 100 {
		pushes(t, h, plain, item(k*37%11, k))
		if k%4 == 3 {
			pops(t, h, plain, isItem)
		}
		kept := h.Sorted()
		samples.Spoil(h.Sorted(), item(-1, -1))
		_ = append(h.Sorted(), item(-2, -2))
		if !slices.Equal(kept, plainSort(plain.in)) {
			t.Fatalf("P9.8: two answers of Sorted share memory: %v", kept)
		}
		holds(t, h, plain, isItem)
	}
}

// TestSortedStays: what is pushed and popped later is not seen in an answer of Sorted.
func TestSortedStays(t *testing.T) {
	h := heap.New[api.Item]()
	for _, x := range items(5, 3, 4, 3) {
		h.Push(x)
	}
	sorted := h.Sorted()
	h.Push(item(0, 0))
	popAll(t, h)
	h.Push(item(9, 9))
	if !slices.Equal(sorted, []api.Item{item(3, 1), item(3, 3), item(4, 2), item(5, 0)}) {
		t.Errorf("P9.8: an answer of Sorted became %v", sorted)
	}
}

// TestAsItIs: what lies in a thing is not copied.
func TestAsItIs(t *testing.T) {
	inner := []int{1, 2}
	x := bundle{7, inner}
	h := heap.New[bundle]()
	h.Push(bundle{8, nil})
	h.Push(x)
	peeked, _ := h.Peek()
	sorted := h.Sorted()
	popped, _ := h.Pop()
	all := []bundle{peeked, sorted[0], popped, heap.Sort([]bundle{x})[0], heap.Merge([]bundle{x})[0], heap.Least([]bundle{x}, 1)[0]}
	inner[1] = 99
	for k, got := range all {
		if !isBundle(got, x) || got.list[1] != 99 {
			t.Errorf("P9.8: the answer %d has %v in it, not what was put in", k, got)
		}
	}
}

// TestPoppedIsGone: a heap does not hold on to what was popped.
func TestPoppedIsGone(t *testing.T) {
	h := heap.New[*note]()
	var gone []weak.Pointer[note]
	for k := range 100 {
		n := &note{k * 37 % 101, k}
		gone = append(gone, weak.Make(n))
		h.Push(n)
	}
	for range 90 {
		h.Pop()
	}
	runtime.GC()
	left := 0
	for _, w := range gone {
		if w.Value() != nil {
			left++
		}
	}
	if left != h.Len() || left != 10 {
		t.Errorf("P9.2: %d things are in the heap, and %d are held", h.Len(), left)
	}
	runtime.KeepAlive(h)
}
