package flow

import (
	"maps"
	"math/rand"
	"slices"
	"testing"
	"time"

	"hindsight/api"
	"hindsight/samples"
)

// table is a plain clock: of each goroutine its time.
type table map[int]int

// tree is a table as times. The place of an event is its time: so the latest is the one with the greatest.
func (c table) tree(r *rand.Rand) *Times {
	gs := slices.Sorted(maps.Keys(c))
	r.Shuffle(len(gs), func(a, b int) { gs[a], gs[b] = gs[b], gs[a] })
	var k *Times
	for _, g := range gs {
		k = Join(k, single(uint16(g), int32(c[g]), int32(c[g])))
	}
	return k
}

func (c table) ticks() []api.Tick {
	var list []api.Tick
	for _, g := range slices.Sorted(maps.Keys(c)) {
		list = append(list, api.Tick{G: g, T: c[g]})
	}
	return list
}

// joined has the greater ones, news the times that are above those of another.
func (c table) joined(o table) table {
	all := maps.Clone(c)
	for g, time := range o {
		all[g] = max(all[g], time)
	}
	return all
}

func (c table) news(old table) table {
	fresh := table{}
	for g, time := range c {
		if time > old[g] {
			fresh[g] = time
		}
	}
	return fresh
}

func (c table) latest() int {
	last := nowhere
	for _, time := range c {
		last = max(last, time)
	}
	return last
}

// like fails if a tree does not say what a table does.
func like(t *testing.T, what string, k *Times, want table) {
	t.Helper()
	if !slices.Equal(k.Ticks(), want.ticks()) || k.Latest() != want.latest() {
		t.Fatalf("P18.2: %s: %v, the latest %d; want %v, %d", what, k.Ticks(), k.Latest(), want.ticks(), want.latest())
	}
	for g := range want {
		for _, near := range []int{g - 1, g, g + 1, g ^ 16, g ^ 1<<15} {
			if near >= 0 && near < api.MaxG && int(k.Get(uint16(near))) != want[near] {
				t.Fatalf("P18.2: %s: the time of %d is %d, want %d", what, near, k.Get(uint16(near)), want[near])
			}
		}
	}
}

// someTable has goroutines near each other, or anywhere; others have a few of them with other times.
func someTable(r *rand.Rand, others table) table {
	c := table{}
	for g, time := range others {
		switch r.Intn(4) {
		case 0:
			c[g] = time
		case 1:
			c[g] = 1 + r.Intn(100)
		}
	}
	for range r.Intn(30) {
		g := []int{r.Intn(40), r.Intn(api.MaxG), api.MaxG - 1 - r.Intn(40), 1<<15 - 20 + r.Intn(40)}[r.Intn(4)]
		c[g] = 1 + r.Intn(100)
	}
	return c
}

// holdsTwo holds all that is done with two clocks.
func holdsTwo(t *testing.T, r *rand.Rand, c, d table) {
	t.Helper()
	a, b := c.tree(r), d.tree(r)
	like(t, "a clock", a, c)
	both := Join(a, b)
	like(t, "two joined", both, c.joined(d))
	like(t, "the first behind it", a, c)
	like(t, "the second behind it", b, d)
	for _, x := range []struct {
		k, old *Times
		want   table
	}{{a, b, c.news(d)}, {b, a, d.news(c)}, {both, a, d.news(c)}, {both, b, c.news(d)}, {a, both, nil}, {b, both, nil}, {a, nil, c}, {nil, a, nil}} {
		if got := x.k.News(x.old); !slices.Equal(got, x.want.ticks()) {
			t.Fatalf("P18.4: what %v has new against %v: %v", x.k.Ticks(), x.old.Ticks(), got)
		}
	}
	// What says it all is answered itself: so clocks share their parts, and shared ones are quick to join.
	for _, part := range []*Times{a, both, nil} {
		if Join(both, part) != both || Join(part, both) != both {
			t.Fatalf("P18.2: %v joined with %v is made anew", both.Ticks(), part.Ticks())
		}
	}
	like(t, "the second once more", Join(b, both), c.joined(d))
}

func TestTwoTrees(t *testing.T) {
	r := rand.New(rand.NewSource(180))
	holdsTwo(t, r, table{}, table{})
	for range 3000 {
		c := someTable(r, nil)
		holdsTwo(t, r, c, someTable(r, c))
		holdsTwo(t, r, someTable(r, c), c)
	}
}

// TestSmallTrees: all pairs of clocks of a few goroutines, at the ends of leaves and halves.
func TestSmallTrees(t *testing.T) {
	r := rand.New(rand.NewSource(1801))
	var all []table
	for _, gs := range samples.AllLists(2, 0, 15, 16, 32767, 32768, api.MaxG-1) {
		c := table{}
		for k, g := range gs {
			c[g] = 2 - k
		}
		all = append(all, c)
	}
	for _, c := range all {
		for _, d := range all {
			holdsTwo(t, r, c, d)
		}
	}
}

// TestShared: one more goroutine, or a later time, costs few new nodes; the others are those of before.
func TestShared(t *testing.T) {
	r := rand.New(rand.NewSource(1802))
	full := table{}
	for g := range api.MaxG {
		full[g] = 1
	}
	k := full.tree(r)
	had := map[*Times]int{}
	nodes(k, had)
	for range 50 {
		more := Join(k, single(uint16(r.Intn(api.MaxG)), 2, 2))
		fresh := 0
		seen := map[*Times]int{}
		nodes(more, seen)
		for n := range seen {
			if had[n] == 0 {
				fresh++
			}
		}
		if fresh != 13 || len(seen) != len(had) { // a leaf, and the twelve bits above it
			t.Fatalf("P18.2: %d new nodes of %d", fresh, len(seen))
		}
	}
}

// TestSharedIsQuick: two that share nearly all are gone through much quicker than two that share nothing.
func TestSharedIsQuick(t *testing.T) {
	r := rand.New(rand.NewSource(1805))
	full := table{}
	for g := range api.MaxG {
		full[g] = 1
	}
	k, apart := full.tree(r), full.tree(r)
	near := Join(k, single(7, 2, 2))
	for name, ask := range map[string]func(a, b *Times){
		"news": func(a, b *Times) { a.News(b) },
		"join": func(a, b *Times) { Join(a, b) },
	} {
		took := func(b *Times) time.Duration { // at best: whatever else goes on meanwhile counts for nothing
			best := time.Hour
			for range 100 {
				begun := time.Now()
				ask(near, b)
				best = min(best, time.Since(begun))
			}
			return best
		}
		if shared, unshared := took(k), took(apart); shared > unshared/4 {
			t.Errorf("P0.1: %s of what is shared took %v, of what is not %v", name, shared, unshared)
		}
	}
}

func nodes(k *Times, seen map[*Times]int) {
	if k != nil {
		seen[k]++
		nodes(k.low, seen)
		nodes(k.high, seen)
	}
}

// TestLearn: it is the same, whether the one who gives knows of the last event or not.
func TestLearn(t *testing.T) {
	r := rand.New(rand.NewSource(1803))
	for range 2000 {
		known := someTable(r, nil)
		given := someTable(r, known)
		g, time := r.Intn(40), r.Intn(3)
		delete(known, g)
		delete(given, g)
		if r.Intn(2) == 0 { // it knows: of the last event, and so of all that was known there
			given = given.joined(known)
			if time > 0 {
				given[g] = time
			}
		} else if time > 1 {
			given[g] = time - 1
		}
		v := View{Known: known.tree(r), Time: int32(time), Place: 100, G: uint16(g)}
		v.learn(given.tree(r))
		like(t, "what is learnt", v.Known, known.joined(given))
	}
}
