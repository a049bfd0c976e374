package wire

import "hindsight/api"

// Cursor goes over bytes; the first fault stays.
type Cursor struct {
	data  []byte
	at    int
	fault api.Errno
}

// New is a cursor at the begin.
func New(b []byte) *Cursor {
	// A copy: the caller may write into b afterwards.
	return &Cursor{data: append([]byte(nil), b...)}
}

// take is the one place where a fault is kept and the place moves. It does not run read without a
// cursor or behind a fault, so what reads need not ask for either.
func take[T any](c *Cursor, read func() (T, int, api.Errno)) T {
	var none T
	if c.Fault() != api.OK {
		return none
	}
	x, next, fault := read()
	if fault != api.OK {
		c.fault = fault
		return none
	}
	c.at = next
	return x
}

// Byte takes one byte.
func (c *Cursor) Byte() byte {
	return take(c, func() (byte, int, api.Errno) {
		if c.Left() == 0 {
			return 0, 0, api.ErrEnd
		}
		return c.data[c.at], c.at + 1, api.OK
	})
}

// Uvarint takes a number.
func (c *Cursor) Uvarint() uint64 {
	return take(c, func() (uint64, int, api.Errno) {
		return ReadUvarint(c.data, c.at)
	})
}

// Varint takes a signed number.
func (c *Cursor) Varint() int64 {
	return take(c, func() (int64, int, api.Errno) {
		return ReadVarint(c.data, c.at)
	})
}

// Bytes takes n bytes.
func (c *Cursor) Bytes(n int) []byte {
	return take(c, func() ([]byte, int, api.Errno) {
		if n < 0 || n > c.Left() {
			return nil, 0, api.ErrTake
		}
		next := c.at + n
		// A copy: what a caller writes into the answer must not be read here later.
		return append([]byte(nil), c.data[c.at:next]...), next, api.OK
	})
}

// Left tells how many bytes are left.
func (c *Cursor) Left() int {
	if c == nil {
		return 0
	}
	return len(c.data) - c.at
}

// At tells the place.
func (c *Cursor) At() int {
	if c == nil {
		return 0
	}
	return c.at
}

// Fault tells the first fault.
func (c *Cursor) Fault() api.Errno {
	if c == nil {
		return api.ErrNil
	}
	return c.fault
}
