package deadlock

import (
	"slices"

	"hindsight/api"
	"hindsight/heap"
)

// nesting is which locks of a run were taken inside which others. A lock is known by its place among all that
// were taken. What happened several times stands here so often.
type nesting struct {
	locks  []uint64  // rising
	inside [][]int32 // of each lock those that were taken while it was held
	around []int     // of each lock in how many of these lists it stands
}

func newNesting(run []api.Event) *nesting {
	locks := taken(run)
	n := &nesting{locks, make([][]int32, len(locks)), make([]int, len(locks))}
	for x := range takings(run) {
		inner, _ := slices.BinarySearch(locks, x.lock)
		for h := range x.holds() {
			outer, _ := slices.BinarySearch(locks, h.Outer)
			n.inside[outer] = append(n.inside[outer], int32(inner))
			n.around[inner]++
		}
	}
	return n
}

// order answers the locks, each behind those inside which it was taken, always the least that can come next;
// or that there is no such order. The nesting is used up by it.
func (n *nesting) order() ([]uint64, bool) {
	ready := heap.New[api.Item]()
	for lock, left := range n.around {
		if left == 0 {
			ready.Push(api.Item{Key: lock})
		}
	}
	var order []uint64
	for next, fault := ready.Pop(); fault == api.OK; next, fault = ready.Pop() {
		order = append(order, n.locks[next.Key])
		for _, inner := range n.inside[next.Key] {
			n.around[inner]--
			if n.around[inner] == 0 {
				ready.Push(api.Item{Key: int(inner)})
			}
		}
	}
	if len(order) < len(n.locks) {
		return nil, false
	}
	return order, true
}
