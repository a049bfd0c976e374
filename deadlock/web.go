package deadlock

import (
	"iter"
	"slices"
)

// pair are the steps that took one lock while they held another one.
type pair struct {
	steps []*step // by their events
	few   []*step // of these enough to tell whether there is a ring: each of the others can be replaced
	grips []*step // enough of these, if it did not matter whose they are: as if each lock had its own goroutine to hold it
	gs    []int   // whose the few are; of more goroutines than a ring has, so many
	next  uint64  // as bits, the locks that a step behind one of these may take
}

func (p *pair) needed() []*step { return p.few }

func (p *pair) anybodys() []*step { return p.grips }

// weigh puts a step among the few, and among the grips, if it is needed there. The lighter ones are to be weighed
// ahead of it.
func (p *pair) weigh(x *step, outer int) {
	if p.spares(x, outer) {
		return
	}
	p.few = append(p.few, x)
	if len(p.gs) < longest && !slices.Contains(p.gs, x.g) {
		p.gs = append(p.gs, x.g)
	}
	if !slices.ContainsFunc(p.grips, func(y *step) bool { return y.replaces(x.grip, outer) }) {
		p.grips = append(p.grips, &step{grip: x.grip, g: outer})
	}
}

// spares tells whether one of the few can stand wherever a step can. It is of the same goroutine, or there are
// so many that one of them is of none that the ring has already.
func (p *pair) spares(x *step, outer int) bool {
	gs := make([]int, 0, longest)
	for _, y := range p.few {
		if slices.Contains(gs, y.g) || !y.replaces(x.grip, outer) {
			continue
		}
		gs = append(gs, y.g)
		if y.g == x.g || len(gs) == longest {
			return true
		}
	}
	return false
}

// leads tells whether a step of a pair may come behind one of this pair.
func (p *pair) leads(other *pair) bool {
	for _, x := range p.few {
		if slices.ContainsFunc(other.few, x.leads) {
			return true
		}
	}
	return false
}

// unlike tells whether each of some pairs can have a goroutine of its own, none of those that are taken.
func unlike(pairs []*pair, taken ...int) bool {
	if len(pairs) == 0 {
		return true
	}
	for _, g := range pairs[0].gs {
		if !slices.Contains(taken, g) && unlike(pairs[1:], append(taken, g)...) {
			return true
		}
	}
	return false
}

// web are pairs, by the lock that is held and then by the one that is taken.
type web [][]pair

// newWeb is the web of some steps, which stand by their events, over so many locks.
func newWeb(steps []*step, locks int) web {
	w := make(web, locks)
	for lock := range w {
		w[lock] = make([]pair, locks)
	}
	for x, outer := range w.places(steps) {
		p := &w[outer][x.lock]
		p.steps = append(p.steps, x)
	}
	light := slices.SortedStableFunc(slices.Values(steps), func(a, b *step) int { return a.weight() - b.weight() })
	for x, outer := range w.places(light) {
		w[outer][x.lock].weigh(x, outer)
	}
	w.link()
	return w
}

// places goes over steps with each lock that they hold beside the one that they take.
func (w web) places(steps []*step) iter.Seq2[*step, int] {
	return func(yield func(*step, int) bool) {
		for _, x := range steps {
			for lock := range w {
				if x.holds(lock) && !yield(x, lock) {
					return
				}
			}
		}
	}
}

// link notes of each pair what may be taken behind it.
func (w web) link() {
	for outer := range w {
		for lock := range w {
			p := &w[outer][lock]
			for next := range w {
				if p.leads(&w[lock][next]) {
					p.next |= 1 << next
				}
			}
		}
	}
}

// names goes over the lists of so many locks that could be names, in their order: the first lock is the least,
// and what holds one and takes the next may come ahead of what holds that and takes the one behind it.
func (w web) names(length int, visit func(name []int)) {
	var grow func(name []int)
	grow = func(name []int) {
		if len(name) == length {
			if w.linked(name) {
				visit(name)
			}
			return
		}
		last := w[name[len(name)-2]][name[len(name)-1]]
		for lock := name[0] + 1; lock < len(w); lock++ {
			if last.next>>lock&1 == 1 && !slices.Contains(name, lock) {
				grow(append(name, lock))
			}
		}
	}
	for first := range w {
		for second := first + 1; second < len(w); second++ {
			grow(append(make([]int, 0, longest), first, second))
		}
	}
}

// linked tells whether all links of a name are there, also those behind its last locks.
func (w web) linked(name []int) bool {
	for k, lock := range name {
		inner, next := name[(k+1)%len(name)], name[(k+2)%len(name)]
		if w[lock][inner].next>>next&1 == 0 {
			return false
		}
	}
	return true
}

// around are the pairs of each lock of a name and the next one, and of the last one and the first.
func (w web) around(name []int) []*pair {
	pairs := make([]*pair, len(name))
	for k, lock := range name {
		pairs[k] = &w[lock][name[(k+1)%len(name)]]
	}
	return pairs
}
