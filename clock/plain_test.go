package clock_test

import (
	"bytes"
	"maps"
	"math"
	"math/big"
	"slices"
	"testing"

	"hindsight/api"
	"hindsight/clock"
	"hindsight/wire"
)

const maxG = 65536 // as the chapter writes it

// of is a clock out of goroutines and times in turns.
func of(n ...int) []api.Tick {
	var c []api.Tick
	for k := 0; k < len(n); k += 2 {
		c = append(c, api.Tick{G: n[k], T: n[k+1]})
	}
	return c
}

// plainGood is the chapter's word, part by part.
func plainGood(c []api.Tick) bool {
	for k, x := range c {
		if x.G < 0 || x.G > maxG-1 {
			return false
		}
		if k > 0 && x.G <= c[k-1].G {
			return false
		}
		if x.T < 1 {
			return false
		}
	}
	return true
}

// plainTimes are the times of a good clock; of a goroutine that is not in it a map answers 0, too.
func plainTimes(c []api.Tick) map[int]int {
	times := map[int]int{}
	for _, x := range c {
		times[x.G] = x.T
	}
	return times
}

// plainClock is the good clock with these times.
func plainClock(times map[int]int) []api.Tick {
	var c []api.Tick
	for _, g := range slices.Sorted(maps.Keys(times)) {
		if times[g] > 0 {
			c = append(c, api.Tick{G: g, T: times[g]})
		}
	}
	return c
}

func plainGet(c []api.Tick, g int) int {
	if !plainGood(c) || g < 0 || g > maxG-1 {
		return 0
	}
	return plainTimes(c)[g]
}

func plainSet(c []api.Tick, g, t int) ([]api.Tick, api.Errno) {
	switch {
	case !plainGood(c):
		return nil, api.ErrClock
	case g < 0 || g > maxG-1:
		return nil, api.ErrG
	case t < 0:
		return nil, api.ErrArg
	}
	times := plainTimes(c)
	times[g] = t
	return plainClock(times), api.OK
}

// plainTwo is the clock of one of the two times of each goroutine.
func plainTwo(a, b []api.Tick, choose func(s, t int) int) ([]api.Tick, api.Errno) {
	if !plainGood(a) || !plainGood(b) {
		return nil, api.ErrClock
	}
	first, second, chosen := plainTimes(a), plainTimes(b), map[int]int{}
	for _, c := range [][]api.Tick{a, b} {
		for _, x := range c {
			chosen[x.G] = choose(first[x.G], second[x.G])
		}
	}
	return plainClock(chosen), api.OK
}

func greater(s, t int) int {
	if s > t {
		return s
	}
	return t
}

func lesser(s, t int) int {
	if s > t {
		return t
	}
	return s
}

// plainLeq looks at the goroutines of a alone: each other one has the time 0 in it, which is at most any.
func plainLeq(a, b []api.Tick) (bool, api.Errno) {
	if !plainGood(a) || !plainGood(b) {
		return false, api.ErrClock
	}
	times := plainTimes(b)
	for _, x := range a {
		if x.T > times[x.G] {
			return false, api.OK
		}
	}
	return true, api.OK
}

func plainApart(a, b []api.Tick) (bool, api.Errno) {
	below, e := plainLeq(a, b)
	above, _ := plainLeq(b, a)
	return e == api.OK && !below && !above, e
}

func plainEncode(c []api.Tick) ([]byte, api.Errno) {
	if !plainGood(c) {
		return nil, api.ErrClock
	}
	b := wire.Uvarint(uint64(len(c)))
	for k, x := range c {
		if k == 0 {
			b = append(b, wire.Uvarint(uint64(x.G))...)
		} else {
			b = append(b, wire.Uvarint(uint64(x.G-c[k-1].G-1))...)
		}
		b = append(b, wire.Uvarint(uint64(x.T))...)
	}
	return b, api.OK
}

// plainDecode is P17.8, word by word, in numbers that don't wrap round.
func plainDecode(b []byte) ([]api.Tick, api.Errno) {
	elements, at, e := wire.ReadUvarint(b, 0)
	if e != api.OK {
		return nil, e
	}
	if elements > maxG {
		return nil, api.ErrClock
	}
	var c []api.Tick
	g := big.NewInt(-1)
	for range elements {
		var gap, t uint64
		if gap, at, e = wire.ReadUvarint(b, at); e != api.OK {
			return nil, e
		}
		g.Add(g, new(big.Int).SetUint64(gap)).Add(g, big.NewInt(1))
		if g.Cmp(big.NewInt(maxG-1)) > 0 {
			return nil, api.ErrClock
		}
		if t, at, e = wire.ReadUvarint(b, at); e != api.OK {
			return nil, e
		}
		if t == 0 || t > 1<<63-1 {
			return nil, api.ErrClock
		}
		c = append(c, api.Tick{G: int(g.Int64()), T: int(t)})
	}
	if at != len(b) {
		return nil, api.ErrClock
	}
	return c, api.OK
}

// holdsOne holds the calls of one clock against the plain ones, with the goroutines and times that are asked.
func holdsOne(t *testing.T, c []api.Tick, gs, ts []int) {
	t.Helper()
	if got, want := clock.Good(c), plainGood(c); got != want {
		t.Fatalf("P17.1: Good(%v) = %v", c, got)
	}
	for _, g := range gs {
		if got, want := clock.Get(c, g), plainGet(c, g); got != want {
			t.Fatalf("P17.2: Get(%v, %d) = %d, want %d", c, g, got, want)
		}
		for _, n := range ts {
			holdsSet(t, c, g, n)
		}
	}
	holdsEncode(t, c)
}

func holdsSet(t *testing.T, c []api.Tick, g, n int) {
	t.Helper()
	got, e := clock.Set(c, g, n)
	want, wantE := plainSet(c, g, n)
	if e != wantE || !slices.Equal(got, want) {
		t.Fatalf("P17.3: Set(%v, %d, %d) = %v, %d, want %v, %d", c, g, n, got, e, want, wantE)
	}
}

// holdsEncode reads the bytes back, too.
func holdsEncode(t *testing.T, c []api.Tick) {
	t.Helper()
	b, e := clock.Encode(c)
	want, wantE := plainEncode(c)
	if e != wantE || !bytes.Equal(b, want) {
		t.Fatalf("P17.7: Encode(%v) = %v, %d, want %v, %d", c, b, e, want, wantE)
	}
	if e != api.OK {
		return
	}
	if again, e := clock.Decode(b); e != api.OK || !slices.Equal(again, c) {
		t.Fatalf("P17.9: Encode(%v) = %v; Decode of that = %v, %d", c, b, again, e)
	}
}

// holdsDecode writes the clock again, too, and answers the error.
func holdsDecode(t *testing.T, b []byte) api.Errno {
	t.Helper()
	c, e := clock.Decode(b)
	want, wantE := plainDecode(b)
	if e != wantE || !slices.Equal(c, want) {
		t.Fatalf("P17.8: Decode(%v) = %v, %d, want %v, %d", b, c, e, want, wantE)
	}
	if e != api.OK {
		return e
	}
	if again, e := clock.Encode(c); e != api.OK || !bytes.Equal(again, b) || !clock.Good(c) {
		t.Fatalf("P17.9: Decode(%v) = %v; Encode of that = %v, %d", b, c, again, e)
	}
	return api.OK
}

// holdsTwo holds the calls of two clocks against the plain ones.
func holdsTwo(t *testing.T, a, b []api.Tick) {
	t.Helper()
	joined, e := clock.Join(a, b)
	want, wantE := plainTwo(a, b, greater)
	if e != wantE || !slices.Equal(joined, want) {
		t.Fatalf("P17.4: Join(%v, %v) = %v, %d, want %v, %d", a, b, joined, e, want, wantE)
	}
	met, e := clock.Meet(a, b)
	want, wantE = plainTwo(a, b, lesser)
	if e != wantE || !slices.Equal(met, want) {
		t.Fatalf("P17.5: Meet(%v, %v) = %v, %d, want %v, %d", a, b, met, e, want, wantE)
	}
	leq, e := clock.Leq(a, b)
	is, wantE := plainLeq(a, b)
	if e != wantE || leq != is {
		t.Fatalf("P17.6: Leq(%v, %v) = %v, %d, want %v, %d", a, b, leq, e, is, wantE)
	}
	apart, e := clock.Apart(a, b)
	is, wantE = plainApart(a, b)
	if e != wantE || apart != is {
		t.Fatalf("P17.6: Apart(%v, %v) = %v, %d, want %v, %d", a, b, apart, e, is, wantE)
	}
}

// What goroutines and times are asked with: their ends, and what lies beside them.

func edgesOfG() []int {
	return []int{math.MinInt, -1, 0, 1, 2, 3, 300, maxG - 2, maxG - 1, maxG, maxG + 1, math.MaxInt}
}

func edgesOfT() []int {
	return []int{math.MinInt, -1, 0, 1, 2, 5, 127, 128, math.MaxInt - 1, math.MaxInt}
}

// goodLists are clocks, those at the edges among them.
func goodLists() [][]api.Tick {
	return [][]api.Tick{
		nil, {}, of(3, 1), of(0, 5, 2, 1), of(0, 1), of(0, math.MaxInt), of(maxG-1, 1), of(maxG-1, math.MaxInt),
		of(0, math.MaxInt, 1, 1, maxG-2, 7, maxG-1, math.MaxInt), of(1, 1, 2, 3), of(0, 2, 1, 2), of(0, 2, 1, 3), of(127, 127, 256, 128),
	}
}

// badLists are no clocks, each for one reason alone.
func badLists() [][]api.Tick {
	lists := [][]api.Tick{of(2, 1, 0, 5), of(1, 1, 1, 2), of(1, 1, 1, 1), of(0, 1, 0, 1), of(maxG-1, 1, maxG-1, 1), of(0, 1, 2, 1, 1, 1), of(0, 1, 2, 1, 2, 1, 3, 1), of(maxG-1, 1, 0, 1)}
	for _, wrong := range []int{0, -1, math.MinInt} {
		lists = append(lists, of(0, wrong), of(0, wrong, 3, 1), of(0, 1, 3, wrong), of(0, 1, 3, wrong, 5, 1), of(maxG-1, wrong))
	}
	for _, below := range []int{-1, math.MinInt} {
		lists = append(lists, of(below, 1), of(below, 1, 0, 1))
	}
	for _, above := range []int{maxG, maxG + 1, math.MaxInt} {
		lists = append(lists, of(above, 1), of(0, 1, above, 1), of(maxG-1, 1, above, 1))
	}
	return lists
}

// someClock is a clock of about so many goroutines below another number, with small times and a few that are as great as may be.
func someClock(pick func(below int) int, n, below int) []api.Tick {
	times := map[int]int{}
	for range n {
		times[pick(below)] = 1 + pick(4)
		if pick(8) == 0 {
			times[pick(below)] = math.MaxInt - pick(2)
		}
	}
	return plainClock(times)
}

// near is a clock that differs from another one in a few goroutines.
func near(pick func(below int) int, c []api.Tick, below int) []api.Tick {
	times := plainTimes(c)
	for range pick(4) {
		times[pick(below)] = pick(4)
	}
	return plainClock(times)
}
