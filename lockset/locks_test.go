package lockset

import (
	"maps"
	"math/rand"
	"slices"
	"testing"

	"hindsight/api"
)

// plainSet is a set of locks that is kept plainly.
type plainSet map[uint64]struct{}

func (p plainSet) list() []uint64 { return slices.Sorted(maps.Keys(p)) }

// has tells whether all locks of another one are in it.
func (p plainSet) has(other plainSet) bool {
	for lock := range other {
		if _, is := p[lock]; !is {
			return false
		}
	}
	return true
}

// someLocks are numbers near each other, and far from each other, at all bits.
func someLocks(r *rand.Rand) []uint64 {
	list := []uint64{0, 1<<64 - 1}
	for range 6 {
		list = append(list, uint64(r.Intn(16)), uint64(1)<<r.Intn(64), ^(uint64(1) << r.Intn(64)), r.Uint64())
	}
	return list
}

// TestSetsAsPlain: sets that grow, shrink, and have something in common, in any order. None is changed by
// what comes later; and what another one has wholly is answered as it is.
func TestSetsAsPlain(t *testing.T) {
	r := rand.New(rand.NewSource(2020))
	whole := 0
	for range 200 {
		numbers := someLocks(r)
		made, plainly := []*locks{nil}, []plainSet{{}}
		for range 120 {
			k, n := r.Intn(len(made)), r.Intn(len(made))
			lock := numbers[r.Intn(len(numbers))]
			s, p := made[k], maps.Clone(plainly[k])
			_, has := p[lock]
			switch {
			case r.Intn(5) < 2:
				s = common(s, made[n])
				maps.DeleteFunc(p, func(lock uint64, _ struct{}) bool { return !plainly[n].has(plainSet{lock: {}}) })
				if plainly[n].has(plainly[k]) {
					whole++
					if s != made[k] {
						t.Fatalf("%v, which %v has, is answered anew", plainly[k].list(), plainly[n].list())
					}
				}
			case has:
				s = s.without(lock)
				delete(p, lock)
			default:
				s = s.with(lock)
				p[lock] = struct{}{}
			}
			made, plainly = append(made, s), append(plainly, p)
		}
		for k, s := range made {
			if got := s.list(); !slices.Equal(got, plainly[k].list()) {
				t.Fatalf("the set is %v, want %v", got, plainly[k].list())
			}
		}
	}
	if whole < 1000 {
		t.Errorf("the test met %d sets that another one has wholly", whole)
	}
}

// count counts the parts of a set that were not seen yet.
func (s *locks) count(seen map[*locks]int) int {
	if s == nil || seen[s] > 0 {
		return 0
	}
	seen[s]++
	return 1 + s.low.count(seen) + s.high.count(seen)
}

// TestSetsAreSmall: sets that differ in one lock share nearly all that is kept of them, and so does what
// they have in common.
func TestSetsAreSmall(t *testing.T) {
	const many = 1 << 14
	var s *locks
	for lock := range uint64(many) {
		s = s.with(lock * lock * 977)
	}
	seen := map[*locks]int{}
	if n := s.count(seen); n != 2*many-1 {
		t.Fatalf("%d locks are in %d parts", many, n)
	}
	for k := range uint64(1000) {
		less, more := s.without(k*k*977), s.with(3+1000*k)
		n := less.count(seen) + more.count(seen)
		if common(less, more) != less || n > 130 {
			t.Fatalf("two more sets have %d other parts", n)
		}
		if n := common(more, less).count(seen); n > 64 {
			t.Fatalf("what they have in common has %d other parts", n)
		}
	}
}

// TestAskedAgain: what was asked for ahead of it does not show in an answer; where the same is asked for one
// behind the other, the answer is shared.
func TestAskedAgain(t *testing.T) {
	var a, b *locks
	for lock := range uint64(10) {
		a, b = a.with(2*lock), b.with(3*lock)
	}
	first := common(a, b)
	if common(a, b) != first || !slices.Equal(first.list(), []uint64{0, 6, 12, 18}) {
		t.Errorf("in common are %v", first.list())
	}
	for _, x := range []struct {
		a, b *locks
		want []uint64
	}{
		{a, b, first.list()}, {b, a, first.list()}, {a, nil, nil}, {nil, b, nil}, {nil, nil, nil}, {a, a, a.list()}, {b, a, first.list()},
		{first, a, first.list()}, {a.without(6), b, []uint64{0, 12, 18}}, {a.without(6), b.without(12), []uint64{0, 18}}, {a, b, first.list()},
	} {
		if got := common(x.a, x.b).list(); !slices.Equal(got, x.want) {
			t.Errorf("%v and %v have %v in common, want %v", x.a.list(), x.b.list(), got, x.want)
		}
	}
}

// TestBytesShareTheirGuards: many bytes with the same guards, of which each access leaves some.
func TestBytesShareTheirGuards(t *testing.T) {
	s := newSearch()
	s.take(api.Event{Kind: api.Fork, Arg: 1})
	s.take(api.Event{Kind: api.Fork, Arg: 2})
	const bytes = 1000
	for g := range 3 {
		for lock := range uint64(100) {
			s.take(api.Event{G: g, Kind: api.RAcquire, Obj: lock * uint64(g+1)})
		}
		for k := range uint64(bytes) {
			s.take(api.Event{G: g, Kind: api.Read, Obj: 100 * k, Arg: 8})
		}
	}
	seen, n := map[*locks]int{}, 0
	for k := range uint64(bytes) {
		n += s.memory.At(100 * k).guards.count(seen)
	}
	if left := s.memory.At(0).guards.list(); n != 2*len(left)-1 || len(left) != 34 {
		t.Errorf("all bytes have %v, in %d parts", left, n)
	}
}

// TestHoldersKeepNothing: of what was given back nothing is left.
func TestHoldersKeepNothing(t *testing.T) {
	s := newSearch()
	for _, kind := range []int{api.Acquire, api.Release, api.RAcquire, api.RAcquire, api.RRelease, api.RAcquire, api.RRelease, api.RRelease} {
		for lock := range uint64(5) {
			s.take(api.Event{G: 1, Kind: kind, Obj: lock})
		}
	}
	if h := s.holder(1); h.all != nil || h.toWrite != nil || len(h.times) != 0 {
		t.Errorf("it holds %v, %v to write, %v", h.all.list(), h.toWrite.list(), h.times)
	}
}
