package flow

import (
	"math/bits"

	"hindsight/api"
)

// nowhere stands for the place of an event that is not there.
const nowhere = -1

// Times are the times of goroutines in a clock: a tree over the bits of the goroutines' numbers, which is
// never changed. So clocks share what they have in common: there may be a million of them, with thousands
// of goroutines in each. nil: all times are 0.
type Times struct {
	g         uint16 // the bits that all goroutines of the tree have in common
	free      uint16 // the bits in which they may differ: the lowest ones
	last      int32  // the place of the latest event that is counted
	low, high *Times // the goroutines without the highest of these bits, and those with it
	leaf      *leaf  // where so few bits are left: the times themselves, and there are no halves
}

// leaf is a piece of a clock: joining goes over these quicker than over as many ends of a tree.
type leaf [leafSize]int32

const (
	leafSize = 16
	leafBits = leafSize - 1
)

// single is the tree of one goroutine alone, whose latest event is that at a place.
func single(g uint16, time, place int32) *Times {
	k := &Times{g: g &^ leafBits, free: leafBits, last: place, leaf: &leaf{}}
	k.leaf[g&leafBits] = time
	return k
}

// spans tells whether a goroutine would stand in a tree, if it has a time.
func (k *Times) spans(g uint16) bool {
	return (g^k.g)&^k.free == 0
}

// side is that half of a tree in which a goroutine would stand.
func (k *Times) side(g uint16) *Times {
	highest := k.free ^ k.free>>1
	if g&highest == 0 {
		return k.low
	}
	return k.high
}

// Get is the time of a goroutine.
func (k *Times) Get(g uint16) int32 {
	for k != nil && k.spans(g) {
		if k.leaf != nil {
			return k.leaf[g&leafBits]
		}
		k = k.side(g)
	}
	return 0
}

// Latest is the place of the latest event that is counted; -1, if none is.
func (k *Times) Latest() int {
	if k == nil {
		return nowhere
	}
	return int(k.last)
}

// Join is the tree with the greater one of each goroutine's two times. Where one of the two says it all,
// it is answered itself, so that what is shared stays shared: it is not gone through again.
func Join(a, b *Times) *Times {
	switch {
	case a == b || b == nil:
		return a
	case a == nil:
		return b
	case a.free < b.free:
		return Join(b, a)
	case !a.spans(b.g):
		return over(a, b)
	case a.leaf != nil:
		return joinLeaves(a, b)
	}
	low, high := a.low, a.high
	switch {
	case a.free == b.free:
		low, high = Join(low, b.low), Join(high, b.high)
	case a.side(b.g) == low:
		low = Join(low, b)
	default:
		high = Join(high, b)
	}
	return joinHalves(a, b, low, high)
}

// joinLeaves joins two leaves of the same goroutines.
func joinLeaves(a, b *Times) *Times {
	greater := *a.leaf
	for k, time := range b.leaf {
		greater[k] = max(greater[k], time)
	}
	switch greater {
	case *a.leaf:
		return a
	case *b.leaf:
		return b
	}
	kept := greater
	return &Times{g: a.g, free: a.free, last: max(a.last, b.last), leaf: &kept}
}

// joinHalves is a with other halves; if b has these, it is b.
func joinHalves(a, b, low, high *Times) *Times {
	for _, k := range []*Times{a, b} {
		if k.low == low && k.high == high {
			return k
		}
	}
	return branch(a.g, a.free, low, high)
}

// over is the tree of two that have no goroutine in common.
func over(a, b *Times) *Times {
	if a.g > b.g {
		a, b = b, a
	}
	free := uint16(1)<<bits.Len16(a.g^b.g) - 1
	return branch(a.g&^free, free, a, b)
}

func branch(g, free uint16, low, high *Times) *Times {
	return &Times{g: g, free: free, last: max(low.last, high.last), low: low, high: high}
}

// News are the times that are above those in another tree, by rising goroutines.
func (k *Times) News(old *Times) []api.Tick {
	return k.news(old, nil)
}

// news adds to a list the times that are above those in another tree, by rising goroutines. Of that tree
// goes along what may have the same goroutines: where both share a part, nothing is new.
func (k *Times) news(old *Times, list []api.Tick) []api.Tick {
	if k == nil || k == old {
		return list
	}
	if old != nil && old.free > k.free {
		return k.news(old.side(k.g), list)
	}
	if k.leaf == nil {
		return k.high.news(old, k.low.news(old, list))
	}
	for low, time := range k.leaf {
		g := k.g | uint16(low)
		if time > old.Get(g) {
			list = append(list, api.Tick{G: int(g), T: int(time)})
		}
	}
	return list
}

// Ticks are all times, by rising goroutines.
func (k *Times) Ticks() []api.Tick {
	return k.News(nil)
}
