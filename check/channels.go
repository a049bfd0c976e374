package check

import "hindsight/api"

// channel is one that was made. It stays when it is closed: it can't be made again.
type channel struct {
	room, sends, receives int
	closed                bool
}

// inside is how many values are in a channel; without room: how many senders wait for a receiver.
func (ch *channel) inside() int {
	return ch.sends - ch.receives
}

func (c *Checker) mayMake(e api.Event) int {
	if c.channels[e.Obj] != nil {
		return alreadyMade
	}
	return none
}

func (c *Checker) makeChannel(e api.Event) {
	c.channels[e.Obj] = &channel{room: int(e.Arg)}
}

func (c *Checker) maySend(e api.Event) int {
	ch := c.channels[e.Obj]
	switch {
	case ch == nil:
		return notMade
	case ch.closed:
		return channelClosed
	case ch.room > 0 && ch.inside() >= ch.room:
		return channelFull
	}
	return none
}

func (c *Checker) send(e api.Event) {
	ch, g := c.channels[e.Obj], c.goroutines[e.G]
	ch.sends++
	if ch.room == 0 {
		g.sentTo, g.sentAs = e.Obj, ch.sends
	}
}

// mayAck need not ask for which channel the goroutine waits: mayAct did.
func (c *Checker) mayAck(e api.Event) int {
	ch, g := c.channels[e.Obj], c.goroutines[e.G]
	switch {
	case ch == nil:
		return notMade
	case !g.waits():
		return noAckDue
	case ch.receives < g.sentAs:
		return notReceived
	}
	return none
}

func (c *Checker) ack(e api.Event) {
	g := c.goroutines[e.G]
	g.sentTo, g.sentAs = 0, 0
}

func (c *Checker) mayReceive(e api.Event) int {
	ch := c.channels[e.Obj]
	switch {
	case ch == nil:
		return notMade
	case e.Arg == 1:
		return ch.mayGive()
	}
	return ch.mayBeAtEnd()
}

// mayGive tells why no value can come out of a channel.
func (ch *channel) mayGive() int {
	if ch.inside() == 0 {
		return noValue
	}
	return none
}

// mayBeAtEnd tells why a receive can't answer that the channel is closed and empty.
func (ch *channel) mayBeAtEnd() int {
	switch {
	case !ch.closed:
		return notClosed
	case ch.inside() > 0:
		return valuesLeft
	}
	return none
}

func (c *Checker) receive(e api.Event) {
	c.channels[e.Obj].receives += int(e.Arg)
}

func (c *Checker) mayClose(e api.Event) int {
	ch := c.channels[e.Obj]
	switch {
	case ch == nil:
		return notMade
	case ch.closed:
		return channelClosed
	case ch.room == 0 && ch.inside() > 0:
		return valueWaits
	}
	return none
}

func (c *Checker) closeChannel(e api.Event) {
	c.channels[e.Obj].closed = true
}
