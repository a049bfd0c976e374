package check

import "hindsight/api"

// goroutine is one that was begun. It stays when it is joined: it may still hold locks.
type goroutine struct {
	held rising // its locks, with each how often it holds it

	// Its Send that waits for an Ack: on which channel, and as which one there, from 1 on; 0: none waits.
	sentTo uint64
	sentAs int
}

func (g *goroutine) waits() bool {
	return g.sentAs > 0
}

// begin makes a goroutine one that is alive.
func (c *Checker) begin(number uint64) {
	c.goroutines[int(number)] = &goroutine{}
	c.alive.put(number, 0)
}

// mayAct tells why a goroutine can have no event now, or not this one, whatever its kind asks for.
func (c *Checker) mayAct(e api.Event) int {
	g := c.goroutines[e.G]
	switch {
	case g == nil:
		return notBegun
	case !c.alive.has(uint64(e.G)):
		return alreadyJoined
	case g.waits() && (e.Kind != api.Ack || e.Obj != g.sentTo):
		return ackDue
	}
	return none
}

func (c *Checker) mayFork(e api.Event) int {
	if c.goroutines[int(e.Arg)] != nil {
		return alreadyBegun
	}
	return none
}

func (c *Checker) fork(e api.Event) {
	c.begin(e.Arg)
}

func (c *Checker) mayJoin(e api.Event) int {
	g := c.goroutines[int(e.Arg)]
	switch {
	case g == nil:
		return joinedNotBegun
	case !c.alive.has(e.Arg):
		return joinedTwice
	case int(e.Arg) == e.G:
		return joinsItself
	case g.waits():
		return joinedWaits
	}
	return none
}

func (c *Checker) join(e api.Event) {
	c.alive.remove(e.Arg)
}
