package ring_test

import (
	"math"
	"testing"

	"hindsight/api"
	"hindsight/samples"
)

// TestAllRows: all rows of up to seven events of three goroutines, in rings of one to five, with windows
// from below 0 to more than any ring holds.
func TestAllRows(t *testing.T) {
	for _, row := range samples.AllBodies(7, 0, 1, 2) {
		for size := 1; size <= 5; size++ {
			p := newPair(t, size)
			for k, g := range row {
				p.emit(mark(int(g), k))
			}
			p.counts()
			p.snapshot()
			for n := -1; n <= size+1; n++ {
				p.window(n)
			}
		}
	}
}

// TestWindowEdges: windows of 0, of less, and of more events than a goroutine has and than are held.
func TestWindowEdges(t *testing.T) {
	p := newPair(t, 6)
	for _, g := range []int{7, 7, 7, 65535, 0, 7, 0, 65535, 7} {
		p.emit(mark(g, len(p.plain.all)))
	}
	r := p.ring
	held := p.plain.held() // 65535/3, 0/4, 7/5, 0/6, 65535/7, 7/8
	for _, n := range []int{0, -1, -2, -1 << 32, math.MinInt} {
		windowIs(t, r, n)
	}
	windowIs(t, r, 1, mark(0, 6), mark(65535, 7), mark(7, 8))
	for _, n := range []int{2, 3, 5, 6, 7, 65536, 1 << 32, math.MaxInt} {
		windowIs(t, r, n, held...)
	}
	p.emit(mark(7, 9))
	windowIs(t, r, 1, mark(0, 6), mark(65535, 7), mark(7, 9))
	windowIs(t, r, 2, mark(0, 4), mark(0, 6), mark(65535, 7), mark(7, 8), mark(7, 9))
	windowIs(t, r, 3, mark(0, 4), mark(7, 5), mark(0, 6), mark(65535, 7), mark(7, 8), mark(7, 9))
}

// TestWindowLooksAtGoroutines: not at a kind, an object or a stack; events that are alike count each.
func TestWindowLooksAtGoroutines(t *testing.T) {
	p := newPair(t, 8)
	x := api.Event{G: 1, Kind: api.Write, Obj: 8, Arg: 4, Stack: []string{"f", "main"}}
	y := api.Event{G: 2, Kind: api.Write, Obj: 8, Arg: 4, Stack: []string{"f", "main"}}
	z := api.Event{G: 1, Kind: api.Join, Arg: 2}
	for _, e := range []api.Event{x, x, y, z, x, y} {
		p.emit(e)
	}
	windowIs(t, p.ring, 1, x, y)
	windowIs(t, p.ring, 2, y, z, x, y)
	windowIs(t, p.ring, 3, x, y, z, x, y)
	windowIs(t, p.ring, 4, x, x, y, z, x, y)
}
