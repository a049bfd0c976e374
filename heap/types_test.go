package heap_test

import (
	"math"
	"math/rand"
	"slices"
	"strings"
	"testing"

	"hindsight/api"
	"hindsight/heap"
)

// word is ordered by its length alone.
type word string

func (w word) Before(v word) bool { return len(w) < len(v) }

// note is handed on as a pointer.
type note struct{ key, tag int }

func (n *note) Before(m *note) bool { return m != nil && (n == nil || n.key > m.key) }

// ranked is an interface: things of several types under one order.
type ranked interface {
	Before(ranked) bool
	rank() int
}

type low struct{ key, tag int }

func (l low) rank() int            { return l.key }
func (l low) Before(r ranked) bool { return l.rank() < r.rank() }

type high struct{ key, tag int }

func (h *high) rank() int            { return h.key + 1 }
func (h *high) Before(r ranked) bool { return h.rank() < r.rank() }

// bundle has a list in it, and can't be compared by ==.
type bundle struct {
	key  byte
	list []int
}

func (b bundle) Before(c bundle) bool { return b.key < c.key }

func isBundle(x, y bundle) bool {
	return x.key == y.key && len(x.list) == len(y.list) && (len(x.list) == 0 || &x.list[0] == &y.list[0])
}

// nothing has no bytes at all, and all of them are alike.
type nothing struct{}

func (nothing) Before(nothing) bool { return false }

// holdsAll asks all calls with lists of things that have an order.
func holdsAll[T api.Ranked[T]](t *testing.T, of func(key, tag int) T, is func(x, y T) bool) {
	t.Helper()
	r := rand.New(rand.NewSource(15))
	var lists [][]T
	for tag := range 60 {
		var l []T
		for k, key := range someKeys(r.Intn, tag%30, 1+tag/3) {
			l = append(l, of(key, 100*tag+k))
		}
		holdsSort(t, l, is)
		holdsLeast(t, l, is)
		lists = append(lists, l)
		holdsMerge(t, lists[max(0, tag-5):], is)
	}
}

func TestOtherTypes(t *testing.T) {
	holdsAll(t, item, isItem)
	holdsAll(t, func(key, tag int) api.Rec {
		return api.Rec{Stamp: key - 3, Kind: -tag, Obj: uint64(tag), Arg: math.MaxUint64, Stack: tag}
	}, func(x, y api.Rec) bool { return x == y })
	holdsAll(t, func(key, tag int) word {
		return word(strings.Repeat("a", key) + string([]byte{byte(tag), byte(tag >> 8)}))
	}, func(x, y word) bool { return x == y })
	holdsAll(t, func(key, tag int) *note { return &note{key, tag} }, func(x, y *note) bool { return x == y })
	holdsAll(t, func(key, tag int) bundle { return bundle{byte(key), make([]int, tag%3)} }, isBundle)
	holdsAll(t, func(int, int) nothing { return nothing{} }, func(nothing, nothing) bool { return true })
	holdsAll(t, func(key, tag int) ranked {
		if tag%2 == 0 {
			return low{key, tag}
		}
		return &high{key, tag}
	}, func(x, y ranked) bool { return x == y })
}

// TestNilThings: a thing may be nil, and one may be in a heap several times.
func TestNilThings(t *testing.T) {
	a, b := &note{1, 0}, &note{2, 0}
	is := func(x, y *note) bool { return x == y }
	l := []*note{a, nil, b, a, nil, b, b}
	holdsSort(t, l, is)
	holdsLeast(t, l, is)
	holdsMerge(t, [][]*note{l, {nil}, nil, {b, nil, a}}, is)
}

// odd is a thing whose Before is no order: what it answers a function says, of the two things' numbers.
type odd struct {
	n    int
	says func(a, b int) bool
}

func (o odd) Before(p odd) bool { return o.says(o.n, p.n) }

// numbers are the numbers of things, from the least on.
func numbers(l []odd) []int {
	out := make([]int, len(l))
	for k, o := range l {
		out[k] = o.n
	}
	slices.Sort(out)
	return out
}

// noOrders are answers of a Before that no order gives; some are unlike each time.
func noOrders() map[string]func(a, b int) bool {
	r, asked := rand.New(rand.NewSource(16)), 0
	reals := []float64{1, math.NaN(), 0, math.Inf(-1), math.NaN(), 2, 1}
	return map[string]func(a, b int) bool{
		"always":       func(int, int) bool { return true },
		"not above":    func(a, b int) bool { return a/2 <= b/2 },
		"in a ring":    func(a, b int) bool { return (b-a+300)%3 == 1 },
		"unlike":       func(a, b int) bool { return a != b },
		"near":         func(a, b int) bool { return a < b && b-a < 4 },
		"not a number": func(a, b int) bool { return reals[a%7] < reals[b%7] },
		"any":          func(int, int) bool { return r.Intn(2) == 0 },
		"in turn":      func(int, int) bool { asked++; return asked%2 == 0 },
		"later other":  func(a, b int) bool { asked++; return (a < b) == (asked%100 < 50) },
	}
}

// odds are n things with unlike numbers, in any order.
func odds(r *rand.Rand, n int, says func(a, b int) bool) []odd {
	list := make([]odd, n)
	for k, number := range r.Perm(n) {
		list[k] = odd{number, says}
	}
	return list
}

// TestNoOrder: each call ends, and just what went in comes out.
func TestNoOrder(t *testing.T) {
	r := rand.New(rand.NewSource(17))
	for name, says := range noOrders() {
		for n := range 70 {
			l := odds(r, n, says)
			all := numbers(l)
			if got := numbers(heap.Sort(l)); !slices.Equal(got, all) {
				t.Fatalf("P9.3: %s: of %v came %v", name, all, got)
			}
			a, b := r.Intn(n+1), r.Intn(n+1)
			if got := numbers(heap.Merge(l[:min(a, b)], nil, l[min(a, b):max(a, b)], l[max(a, b):])); !slices.Equal(got, all) {
				t.Fatalf("P9.4: %s: of %v came %v", name, all, got)
			}
			for _, many := range []int{-1, 0, 1, n / 2, n - 1, n, n + 1} {
				got := numbers(heap.Least(l, many))
				if len(got) != min(max(many, 0), n) || len(slices.Compact(got)) != min(max(many, 0), n) {
					t.Fatalf("P9.5: %s: Least(%v, %d) has the numbers %v", name, all, many, got)
				}
			}
			h := heap.New[odd]()
			for _, x := range l {
				h.Push(x)
			}
			if got := numbers(h.Sorted()); !slices.Equal(got, all) || h.Len() != n {
				t.Fatalf("P9.2: %s: Sorted of %v has %v, Len %d", name, all, got, h.Len())
			}
			if got := numbers(popAll(t, h)); !slices.Equal(got, all) {
				t.Fatalf("P9.2: %s: of %v came %v", name, all, got)
			}
		}
	}
}

// TestNoOrderWhilePopping: Pushes and Pops in any row; no thing comes out twice, none is lost.
func TestNoOrderWhilePopping(t *testing.T) {
	r := rand.New(rand.NewSource(18))
	for name, says := range noOrders() {
		h, in := heap.New[odd](), map[int]int{}
		for k := range 2000 {
			if r.Intn(5) < 3 {
				in[k]++
				h.Push(odd{k, says})
			} else if peeked, _ := h.Peek(); h.Len() > 0 {
				x, e := h.Pop()
				if in[x.n] != 1 || e != api.OK || peeked.n != x.n {
					t.Fatalf("P9.2: %s: Pop() = %d, %d, it is in %d times, Peek was %d", name, x.n, e, in[x.n], peeked.n)
				}
				delete(in, x.n)
			}
			if h.Len() != len(in) {
				t.Fatalf("P9.1: %s: Len() = %d, want %d", name, h.Len(), len(in))
			}
		}
		for _, x := range h.Sorted() {
			delete(in, x.n)
		}
		if len(in) != 0 {
			t.Errorf("P9.2: %s: %d things are lost", name, len(in))
		}
	}
}

// TestChangedThings: what lies behind a pointer is the caller's; it may become another order at any time.
func TestChangedThings(t *testing.T) {
	r := rand.New(rand.NewSource(19))
	h, in := heap.New[*note](), map[*note]int{}
	for k := range 1000 {
		n := &note{r.Intn(9), k}
		in[n]++
		h.Push(n)
		for m := range in {
			m.key = r.Intn(9)
			break
		}
		if k%3 == 0 {
			x, e := h.Pop()
			if in[x] != 1 || e != api.OK {
				t.Fatalf("P9.2: Pop() = %v, %d, it is in %d times", x, e, in[x])
			}
			delete(in, x)
		}
	}
	for _, x := range popAll(t, h) {
		delete(in, x)
	}
	if len(in) != 0 {
		t.Errorf("P9.2: %d things are lost", len(in))
	}
}
