package clock

import (
	"math"

	"hindsight/api"
	"hindsight/wire"
)

// Encode writes a clock.
func Encode(c []api.Tick) ([]byte, api.Errno) {
	if !Good(c) {
		return nil, api.ErrClock
	}
	b := wire.Uvarint(uint64(len(c)))
	least := 0
	for _, x := range c {
		b = append(b, wire.Uvarint(uint64(x.G-least))...)
		b = append(b, wire.Uvarint(uint64(x.T))...)
		least = x.G + 1
	}
	return b, api.OK
}

// Decode reads it.
func Decode(b []byte) ([]api.Tick, api.Errno) {
	count, at, fault := readWithin(b, 0, api.MaxG)
	if fault != api.OK {
		return nil, fault
	}
	// The bytes may say more elements than they hold: each one has two bytes or more.
	c := make([]api.Tick, 0, min(count, (len(b)-at)/2))
	least := 0
	for range count {
		x, next, fault := readTick(least, b, at)
		if fault != api.OK {
			return nil, fault
		}
		c = append(c, x)
		least, at = x.G+1, next
	}
	if at < len(b) {
		return nil, api.ErrClock
	}
	return c, api.OK
}

// readTick reads the element at a place, whose goroutine is least or above it: the element, the place behind it.
func readTick(least int, b []byte, at int) (api.Tick, int, api.Errno) {
	above, at, fault := readWithin(b, at, api.MaxG-1-least)
	if fault != api.OK {
		return api.Tick{}, 0, fault
	}
	t, at, fault := readWithin(b, at, math.MaxInt)
	if fault != api.OK {
		return api.Tick{}, 0, fault
	}
	if t == 0 {
		return api.Tick{}, 0, api.ErrClock
	}
	return api.Tick{G: least + above, T: t}, at, api.OK
}

// readWithin reads the number at a place, which may be most at most; with a most below 0 none may be.
func readWithin(b []byte, at, most int) (int, int, api.Errno) {
	x, next, fault := wire.ReadUvarint(b, at)
	if fault != api.OK {
		return 0, 0, fault
	}
	if most < 0 || x > uint64(most) {
		return 0, 0, api.ErrClock
	}
	return int(x), next, api.OK
}
