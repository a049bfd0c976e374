package check

import "hindsight/api"

// bytesOf are the first and the last byte of an allocation.
func bytesOf(e api.Event) (uint64, uint64) {
	return e.Obj, e.Obj + (e.Arg - 1)
}

// mayAllocate asks one allocation alone: what lives has no byte in common, so of those that end at the
// new one's first byte or behind it none begins earlier than the one that ends first.
func (c *Checker) mayAllocate(e api.Event) int {
	first, last := bytesOf(e)
	if near, is := c.memory.next(first); is && near.value <= last {
		return alreadyAllocated
	}
	return none
}

func (c *Checker) allocate(e api.Event) {
	first, last := bytesOf(e)
	c.memory.put(last, first)
}

func (c *Checker) mayFree(e api.Event) int {
	first, last := bytesOf(e)
	if near, is := c.memory.next(last); !is || near != (entry{key: last, value: first}) {
		return notAllocated
	}
	return none
}

func (c *Checker) free(e api.Event) {
	_, last := bytesOf(e)
	c.memory.remove(last)
}
