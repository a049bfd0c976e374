package heap_test

import (
	"cmp"
	"math"
	"math/rand"
	"slices"
	"testing"

	"hindsight/api"
	"hindsight/heap"
)

func TestSortExample(t *testing.T) {
	l := []api.Item{item(2, 1), item(1, 2), item(2, 3), item(1, 4)}
	want := []api.Item{item(1, 2), item(1, 4), item(2, 1), item(2, 3)}
	if got := heap.Sort(l); !slices.Equal(got, want) {
		t.Errorf("P9.3: Sort(%v) = %v", l, got)
	}
	for n, many := range map[int]int{3: 3, -1: 0, 9: 4} {
		if got := heap.Least(l, n); !slices.Equal(got, want[:many]) {
			t.Errorf("P9.5: Least(%v, %d) = %v", l, n, got)
		}
	}
}

func TestMergeExample(t *testing.T) {
	for _, c := range []struct {
		lists [][]api.Item
		want  []api.Item
	}{
		{[][]api.Item{{item(1, 1), item(4, 2)}, {item(1, 3), item(2, 4)}}, []api.Item{item(1, 1), item(1, 3), item(2, 4), item(4, 2)}},
		{[][]api.Item{{item(5, 1), item(1, 2)}, {item(3, 3)}}, []api.Item{item(3, 3), item(5, 1), item(1, 2)}},
		{nil, nil},
		{[][]api.Item{}, nil},
		{[][]api.Item{nil, {}, nil}, nil},
		{[][]api.Item{nil, {item(2, 1)}, {}, {item(2, 2), item(1, 3)}, nil}, []api.Item{item(2, 1), item(2, 2), item(1, 3)}},
	} {
		if got := heap.Merge(c.lists...); !slices.Equal(got, c.want) {
			t.Errorf("P9.4: Merge(%v) = %v, want %v", c.lists, got, c.want)
		}
	}
	if got := heap.Merge[api.Item](); len(got) != 0 {
		t.Errorf("P9.4: Merge() = %v", got)
	}
}

func TestIntsExample(t *testing.T) {
	if got := heap.Ints([]int{3, -1, 3, 0}); !slices.Equal(got, []int{-1, 0, 3, 3}) {
		t.Errorf("P9.6: Ints = %v", got)
	}
}

// TestEarliestList: a head that comes onto the heap late goes ahead of alike ones of later lists, which
// were there long before it.
func TestEarliestList(t *testing.T) {
	lists := [][]api.Item{{item(1, 0), item(5, 1), item(5, 2)}, {item(5, 3), item(5, 4)}, {item(5, 5), item(0, 6), item(5, 7)}}
	want := []api.Item{item(1, 0), item(5, 1), item(5, 2), item(5, 3), item(5, 4), item(5, 5), item(0, 6), item(5, 7)}
	if got := heap.Merge(lists...); !slices.Equal(got, want) {
		t.Errorf("P9.4: Merge(%v) = %v, want %v", lists, got, want)
	}
}

// TestAllLists: all lists of at most six items with three keys.
func TestAllLists(t *testing.T) {
	for _, keys := range allKeys(6) {
		holdsSort(t, items(keys...), isItem)
		holdsLeast(t, items(keys...), isItem)
	}
}

func TestManyLists(t *testing.T) {
	r := rand.New(rand.NewSource(11))
	for range 300 {
		l := items(someKeys(r.Intn, r.Intn(80), 1+r.Intn(100))...)
		holdsSort(t, l, isItem)
		holdsLeast(t, l, isItem)
	}
}

// tagged gives all items of some lists tags of their own.
func tagged(lists ...[]int) [][]api.Item {
	out, tag := make([][]api.Item, len(lists)), 0
	for k, keys := range lists {
		for _, key := range keys {
			out[k] = append(out[k], item(key, tag))
			tag++
		}
	}
	return out
}

// TestAllMerges: all pairs of lists of at most three items, and all three of lists of at most two, with
// three keys.
func TestAllMerges(t *testing.T) {
	for _, a := range allKeys(3) {
		for _, b := range allKeys(3) {
			holdsMerge(t, tagged(a, b), isItem)
		}
	}
	for _, a := range allKeys(2) {
		for _, b := range allKeys(2) {
			for _, c := range allKeys(2) {
				holdsMerge(t, tagged(a, b, c), isItem)
			}
		}
	}
}

func TestManyMerges(t *testing.T) {
	r := rand.New(rand.NewSource(12))
	for range 300 {
		lists := make([][]int, r.Intn(20))
		for k := range lists {
			lists[k] = someKeys(r.Intn, r.Intn(10), 1+r.Intn(30))
		}
		holdsMerge(t, tagged(lists...), isItem)
	}
}

// TestSameListTwice: one list may be handed in several times.
func TestSameListTwice(t *testing.T) {
	l := items(1, 3, 2)
	holdsMerge(t, [][]api.Item{l, l, l[1:], l}, isItem)
}

// TestEdgesOfKeys: the least and the greatest numbers are ordered as numbers are.
func TestEdgesOfKeys(t *testing.T) {
	keys := []int{0, math.MaxInt, -1, math.MinInt, 1, math.MaxInt, math.MinInt + 1, 0, math.MinInt}
	holdsSort(t, items(keys...), isItem)
	holdsLeast(t, items(keys...), isItem)
	holdsMerge(t, tagged(keys[:3], keys[3:5], keys[5:]), isItem)
	want := []int{math.MinInt, math.MinInt, math.MinInt + 1, -1, 0, 0, 1, math.MaxInt, math.MaxInt}
	if got := heap.Ints(keys); !slices.Equal(got, want) {
		t.Errorf("P9.6: Ints(%v) = %v", keys, got)
	}
}

// plainInts is P9.6, word by word: each time a number that no smaller one is left of.
func plainInts(l []int) []int {
	var out []int
	for left := slices.Clone(l); len(left) > 0; {
		k := slices.Index(left, slices.Min(left))
		out, left = append(out, left[k]), slices.Delete(left, k, k+1)
	}
	return out
}

func TestInts(t *testing.T) {
	r := rand.New(rand.NewSource(13))
	lists := append(allKeys(6), []int{}, nil)
	for range 300 {
		lists = append(lists, someKeys(r.Intn, r.Intn(80), 1+r.Intn(math.MaxInt)))
	}
	for _, l := range lists {
		for k := range l {
			l[k] -= r.Intn(3)
		}
		if got, want := heap.Ints(l), plainInts(l); !slices.Equal(got, want) {
			t.Fatalf("P9.6: Ints(%v) = %v, want %v", l, got, want)
		}
	}
}

// TestLarge: a million things, in lists that a slow way of sorting would not come to the end of.
func TestLarge(t *testing.T) {
	const n = 1 << 20 // as many as a trace may have events
	r := rand.New(rand.NewSource(14))
	for name, key := range map[string]func(k int) int{
		"rising": func(k int) int { return k }, "falling": func(k int) int { return -k },
		"alike": func(int) int { return 5 }, "any": func(int) int { return r.Intn(n / 8) },
	} {
		l := make([]api.Item, n)
		for k := range l {
			l[k] = item(key(k), k)
		}
		want := slices.Clone(l)
		slices.SortStableFunc(want, func(x, y api.Item) int { return cmp.Compare(x.Key, y.Key) })
		if !slices.Equal(heap.Sort(l), want) {
			t.Errorf("P9.3: Sort of many, %s", name)
		}
		if !slices.Equal(heap.Least(l, 1000), want[:1000]) {
			t.Errorf("P9.5: Least of many, %s", name)
		}
		single := make([][]api.Item, n)
		for k := range single {
			single[k] = l[k : k+1]
		}
		if !slices.Equal(heap.Merge(single...), want) {
			t.Errorf("P9.4: Merge of many, %s", name)
		}
	}
}
