package flow

import "hindsight/api"

// channel holds what the two ends of it have for each other.
type channel struct {
	free     uint64            // so many Sends to come find room that nobody made for them
	sent     []letter          // of the values that were not received, the oldest first
	emptied  []*Times          // of the Recvs whose room was not used again, the oldest first
	received map[uint16]*Times // by its sender, of each value that was received and not acknowledged
	closed   *Times
}

// letter is a value on its way: who sent it, and what was known there.
type letter struct {
	from  uint16
	known *Times
}

// unbuffered tells whether the room is 0: then there are Acks, and Sends wait for no room.
func (c *channel) unbuffered() bool {
	return c.received != nil
}

func (c *channel) gives(e api.Event) *Times {
	switch e.Kind {
	case api.Send:
		return c.givesSend()
	case api.Ack:
		return c.received[uint16(e.G)]
	case api.Recv:
		return c.givesRecv(e)
	}
	return nil
}

func (c *channel) givesSend() *Times {
	if c.unbuffered() || c.free > 0 {
		return nil
	}
	return c.emptied[0]
}

func (c *channel) givesRecv(e api.Event) *Times {
	if e.Arg == 0 {
		return c.closed
	}
	return c.sent[0].known
}

func (c *channel) keeps(e api.Event, v View) {
	switch e.Kind {
	case api.Make:
		c.keepsMake(e)
	case api.Send:
		c.keepsSend(v)
	case api.Recv:
		c.keepsRecv(e, v)
	case api.Ack:
		delete(c.received, v.G)
	case api.Close:
		c.closed, c.emptied = v.Clock(), nil
	}
}

func (c *channel) keepsMake(e api.Event) {
	c.free = e.Arg
	if e.Arg == 0 {
		c.received = map[uint16]*Times{}
	}
}

func (c *channel) keepsSend(v View) {
	switch {
	case c.unbuffered():
	case c.free > 0:
		c.free--
	default:
		c.emptied = c.emptied[1:]
	}
	c.sent = append(c.sent, letter{v.G, v.Clock()})
}

func (c *channel) keepsRecv(e api.Event, v View) {
	if e.Arg == 0 {
		return
	}
	from := c.sent[0].from
	c.sent = c.sent[1:]
	switch {
	case c.unbuffered():
		c.received[from] = v.Clock()
	case c.closed == nil: // nobody sends to a closed one
		c.emptied = append(c.emptied, v.Clock())
	}
}
