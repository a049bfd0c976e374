package check

import (
	"math"

	"hindsight/api"
	"hindsight/wire"
)

func (c *Checker) mayCount(e api.Event) int {
	if n := c.counters[e.Obj] + wire.Zag(e.Arg); n < 0 || n > math.MaxInt32 {
		return counterOutOfRange
	}
	return none
}

// count keeps no counter that is 0: that is what one is which nobody counted with.
func (c *Checker) count(e api.Event) {
	c.counters[e.Obj] += wire.Zag(e.Arg)
	if c.counters[e.Obj] == 0 {
		delete(c.counters, e.Obj)
	}
}

func (c *Checker) mayWait(e api.Event) int {
	if c.counters[e.Obj] != 0 {
		return counterNotZero
	}
	return none
}

func (c *Checker) mayRunOnce(e api.Event) int {
	_, ran := c.onces[e.Obj]
	switch {
	case e.Arg == 1 && ran:
		return alreadyRan
	case e.Arg == 0 && !ran:
		return notRun
	}
	return none
}

func (c *Checker) runOnce(e api.Event) {
	c.onces[e.Obj] = struct{}{}
}
