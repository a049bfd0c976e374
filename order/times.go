package order

import (
	"math/bits"

	"hindsight/api"
)

// times are the times of goroutines in a clock, as this layer keeps them: a tree over the bits of the
// goroutines' numbers, which is never changed. So clocks share what they have in common: there may be a
// million of them, with thousands of goroutines in each. nil: all times are 0.
type times struct {
	g         uint16 // the bits that all goroutines of the tree have in common
	free      uint16 // the bits in which they may differ: the lowest ones
	last      int32  // the place of the latest event that is counted
	low, high *times // the goroutines without the highest of these bits, and those with it
	leaf      *leaf  // where so few bits are left: the times themselves, and there are no halves
}

// leaf is a piece of a clock: joining goes over these quicker than over as many ends of a tree.
type leaf [leafSize]int32

const (
	leafSize = 16
	leafBits = leafSize - 1
)

// single is the tree of one goroutine alone, whose latest event is that at a place.
func single(g uint16, time, place int32) *times {
	k := &times{g: g &^ leafBits, free: leafBits, last: place, leaf: &leaf{}}
	k.leaf[g&leafBits] = time
	return k
}

// spans tells whether a goroutine would stand in a tree, if it has a time.
func (k *times) spans(g uint16) bool {
	return (g^k.g)&^k.free == 0
}

// side is that half of a tree in which a goroutine would stand.
func (k *times) side(g uint16) *times {
	highest := k.free ^ k.free>>1
	if g&highest == 0 {
		return k.low
	}
	return k.high
}

// get is the time of a goroutine.
func (k *times) get(g uint16) int32 {
	for k != nil && k.spans(g) {
		if k.leaf != nil {
			return k.leaf[g&leafBits]
		}
		k = k.side(g)
	}
	return 0
}

// latest is the place of the latest event that is counted.
func (k *times) latest() int {
	if k == nil {
		return nowhere
	}
	return int(k.last)
}

// join is the tree with the greater one of each goroutine's two times. Where one of the two says it all,
// it is answered itself, so that what is shared stays shared: it is not gone through again.
func join(a, b *times) *times {
	switch {
	case a == b || b == nil:
		return a
	case a == nil:
		return b
	case a.free < b.free:
		return join(b, a)
	case !a.spans(b.g):
		return over(a, b)
	case a.leaf != nil:
		return joinLeaves(a, b)
	}
	low, high := a.low, a.high
	switch {
	case a.free == b.free:
		low, high = join(low, b.low), join(high, b.high)
	case a.side(b.g) == low:
		low = join(low, b)
	default:
		high = join(high, b)
	}
	return joinHalves(a, b, low, high)
}

// joinLeaves joins two leaves of the same goroutines.
func joinLeaves(a, b *times) *times {
	greater := *a.leaf
	for k, time := range b.leaf {
		greater[k] = max(greater[k], time)
	}
	switch greater {
	case *a.leaf:
		return a
	case *b.leaf:
		return b
	}
	kept := greater
	return &times{g: a.g, free: a.free, last: max(a.last, b.last), leaf: &kept}
}

// joinHalves is a with other halves; if b has these, it is b.
func joinHalves(a, b, low, high *times) *times {
	for _, k := range []*times{a, b} {
		if k.low == low && k.high == high {
			return k
		}
	}
	return branch(a.g, a.free, low, high)
}

// over is the tree of two that have no goroutine in common.
func over(a, b *times) *times {
	if a.g > b.g {
		a, b = b, a
	}
	free := uint16(1)<<bits.Len16(a.g^b.g) - 1
	return branch(a.g&^free, free, a, b)
}

func branch(g, free uint16, low, high *times) *times {
	return &times{g: g, free: free, last: max(low.last, high.last), low: low, high: high}
}

// news adds to a list the times that are above those in another tree, by rising goroutines. Of that tree
// goes along what may have the same goroutines: where both share a part, nothing is new.
func (k *times) news(old *times, list []api.Tick) []api.Tick {
	if k == nil || k == old {
		return list
	}
	if old != nil && old.free > k.free {
		return k.news(old.side(k.g), list)
	}
	if k.leaf == nil {
		return k.high.news(old, k.low.news(old, list))
	}
	for low, time := range k.leaf {
		g := k.g | uint16(low)
		if time > old.get(g) {
			list = append(list, api.Tick{G: int(g), T: int(time)})
		}
	}
	return list
}

// ticks are all times, by rising goroutines.
func (k *times) ticks() []api.Tick {
	return k.news(nil, nil)
}
