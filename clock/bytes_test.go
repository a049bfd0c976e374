package clock_test

import (
	"bytes"
	"math"
	"math/rand"
	"slices"
	"testing"

	"hindsight/api"
	"hindsight/clock"
	"hindsight/samples"
	"hindsight/wire"
)

func TestBytesExamples(t *testing.T) {
	for _, c := range []struct {
		c []api.Tick
		b []byte
	}{
		{nil, []byte{0}},
		{[]api.Tick{}, []byte{0}},
		{of(0, 5, 2, 1), []byte{2, 0, 5, 1, 1}},
		{of(300, 1), []byte{1, 172, 2, 1}},
		{of(0, 1, 1, 1, 2, 1), []byte{3, 0, 1, 0, 1, 0, 1}},
		{of(maxG-2, 127, maxG-1, 128), []byte{2, 254, 255, 3, 127, 0, 128, 1}},
		{of(0, math.MaxInt, 129, 1), []byte{2, 0, 255, 255, 255, 255, 255, 255, 255, 255, 127, 128, 1, 1}},
	} {
		if b, e := clock.Encode(c.c); e != api.OK || !bytes.Equal(b, c.b) {
			t.Errorf("P17.7: Encode(%v) = %v, %d, want %v", c.c, b, e, c.b)
		}
		if d, e := clock.Decode(c.b); e != api.OK || !slices.Equal(d, c.c) {
			t.Errorf("P17.8: Decode(%v) = %v, %d, want %v", c.b, d, e, c.c)
		}
	}
	for _, c := range badLists() {
		if b, e := clock.Encode(c); e != api.ErrClock || len(b) > 0 {
			t.Errorf("P17.7: Encode(%v) = %v, %d", c, b, e)
		}
	}
}

func TestDecodeFaults(t *testing.T) {
	for _, c := range []struct {
		b []byte
		e api.Errno
	}{
		{nil, api.ErrEnd},
		{[]byte{}, api.ErrEnd},
		{[]byte{128}, api.ErrEnd},
		{[]byte{1}, api.ErrEnd},
		{[]byte{1, 0}, api.ErrEnd},
		{[]byte{1, 0, 128}, api.ErrEnd},
		{[]byte{2, 0, 1}, api.ErrEnd},
		{[]byte{128, 128, 4}, api.ErrEnd}, // 65536 elements
		{[]byte{0, 0}, api.ErrClock},
		{[]byte{0, 128, 0}, api.ErrClock},
		{[]byte{1, 0, 0}, api.ErrClock},
		{[]byte{1, 0, 1, 9}, api.ErrClock},
		{[]byte{1, 128, 0, 1}, api.ErrLong},
		{[]byte{128, 0}, api.ErrLong},
		{[]byte{1, 0, 129, 0}, api.ErrLong},
		{[]byte{129, 128, 4, 0}, api.ErrClock}, // 65537 elements
		{[]byte{129, 128, 4}, api.ErrClock},
		{[]byte{1, 128, 128, 4}, api.ErrClock}, // the goroutine 65536
		{[]byte{1, 128, 128, 4, 128, 0}, api.ErrClock},
		{[]byte{2, 255, 255, 3, 1, 0}, api.ErrClock},
		{[]byte{2, 255, 255, 3, 1, 0, 1}, api.ErrClock},
		{[]byte{2, 255, 255, 3, 1}, api.ErrEnd},
		{[]byte{2, 255, 255, 3, 0, 0, 1}, api.ErrClock},
		{[]byte{2, 255, 255, 3, 1, 128, 0}, api.ErrLong},
	} {
		if d, e := clock.Decode(c.b); e != c.e || len(d) > 0 {
			t.Errorf("P17.8: Decode(%v) = %v, %d, want %d", c.b, d, e, c.e)
		}
	}
}

// texts are the numbers of a clock as they are written, one by one.
func texts(c []api.Tick) [][]byte {
	out, ahead := [][]byte{wire.Uvarint(uint64(len(c)))}, -1
	for _, x := range c {
		out = append(out, wire.Uvarint(uint64(x.G-ahead-1)), wire.Uvarint(uint64(x.T)))
		ahead = x.G
	}
	return out
}

// fault is a text that stands for the k-th number of a clock, and why it may not.
type fault struct {
	text []byte
	e    api.Errno
}

// faultsAt are such texts: too long, too great for 64 bits, of each sort of number beyond its ends.
func faultsAt(c []api.Tick, k int) []fault {
	good := texts(c)[k]
	long := append(slices.Clone(good), 0)
	long[len(good)-1] |= 128
	over := append(bytes.Repeat([]byte{128}, 9), 2)
	out := []fault{{long, api.ErrLong}, {over, api.ErrOver}}
	var wrong []uint64
	switch {
	case k == 0:
		wrong = []uint64{maxG + 1, 1 << 32, 1<<63 - 1, 1 << 63, math.MaxUint64}
	case k%2 == 1:
		least := 0 // the lowest goroutine that may stand there
		if k > 1 {
			least = c[k/2-1].G + 1
		}
		wrong = []uint64{uint64(maxG - least), maxG, 1 << 32, 1<<63 - 1, 1 << 63, math.MaxUint64 - 1, math.MaxUint64}
		for low := range min(least, 3) { // so far that a sum of 64 bits comes round to a goroutine again
			wrong = append(wrong, uint64(low)-uint64(least))
		}
	default:
		wrong = []uint64{0, 1 << 63, 1<<63 + 1, math.MaxUint64}
	}
	for _, x := range wrong {
		out = append(out, fault{wire.Uvarint(x), api.ErrClock})
	}
	return out
}

// TestEachNumberWrong: each number of some clocks is made wrong in each way; what is wrong behind it doesn't count.
func TestEachNumberWrong(t *testing.T) {
	for _, c := range [][]api.Tick{nil, of(0, 5), of(maxG-1, 1), of(0, 5, 2, 1), of(3, math.MaxInt, 400, 128, maxG-1, 7)} {
		good := texts(c)
		for k := range good {
			for _, f := range faultsAt(c, k) {
				begin := append(slices.Concat(good[:k]...), f.text...)
				ends := [][]byte{nil, slices.Concat(good[k+1:]...), {128, 0}, {0}, {128}, bytes.Repeat([]byte{255}, 10)}
				for _, end := range ends {
					b := slices.Concat(begin, end)
					if d, e := clock.Decode(b); e != f.e || len(d) > 0 {
						t.Errorf("P17.8: Decode(%v) = %v, %d, want %d", b, d, e, f.e)
					}
					holdsDecode(t, b)
				}
			}
		}
	}
}

// TestCutAndGrown: a clock's bytes that end early anywhere, and such as have more behind them.
func TestCutAndGrown(t *testing.T) {
	r := rand.New(rand.NewSource(174))
	clocks := goodLists()
	for range 100 {
		clocks = append(clocks, someClock(r.Intn, r.Intn(20), maxG))
	}
	for _, c := range clocks {
		b := slices.Concat(texts(c)...)
		for n := range b {
			if d, e := clock.Decode(b[:n]); e != api.ErrEnd || len(d) > 0 {
				t.Fatalf("P17.8: Decode(%v) = %v, %d, want %d", b[:n], d, e, api.ErrEnd)
			}
		}
		for _, more := range [][]byte{{0}, {1}, {128}, {0, 1}, bytes.Repeat([]byte{255}, 11), b} {
			if d, e := clock.Decode(slices.Concat(b, more)); e != api.ErrClock || len(d) > 0 {
				t.Fatalf("P17.8: Decode(%v, %v) = %v, %d, want %d", b, more, d, e, api.ErrClock)
			}
		}
	}
}

// TestAllBytes: all rows of at most seven of some bytes, and of at most four of more.
func TestAllBytes(t *testing.T) {
	seen := samples.Seen{}
	for _, b := range slices.Concat(samples.AllBodies(7, 0, 1, 2, 3, 128), samples.AllBodies(4, 0, 1, 2, 3, 4, 5, 7, 127, 128, 129, 130, 131, 254, 255)) {
		seen[holdsDecode(t, b)]++
	}
	if rare := seen.Rare(api.OK, api.ErrEnd, api.ErrLong, api.ErrClock); len(rare) > 0 {
		t.Errorf("rarely answered: %v, of %v", rare, seen)
	}
}

// TestDamagedBytes: clocks' bytes, changed a little.
func TestDamagedBytes(t *testing.T) {
	r := rand.New(rand.NewSource(175))
	seen := samples.Seen{}
	for range 20000 {
		below := []int{1, 5, 40, maxG}[r.Intn(4)]
		b := slices.Concat(texts(someClock(r.Intn, r.Intn(8), below))...)
		for _, damaged := range samples.Damage(r.Intn, [][]byte{b}) {
			seen[holdsDecode(t, damaged)]++
		}
	}
	if rare := seen.Rare(api.OK, api.ErrEnd, api.ErrLong, api.ErrOver, api.ErrClock); len(rare) > 0 {
		t.Errorf("rarely answered: %v, of %v", rare, seen)
	}
}

// TestNumbersOfAnySize: the right count, with goroutines and times out of numbers of all sizes.
func TestNumbersOfAnySize(t *testing.T) {
	r := rand.New(rand.NewSource(176))
	seen := samples.Seen{}
	for range 20000 {
		n := r.Intn(4)
		b := wire.Uvarint(uint64(n))
		for range n {
			b = append(b, wire.Uvarint(r.Uint64()>>(44+r.Intn(20)))...)
			b = append(b, wire.Uvarint(r.Uint64()>>r.Intn(64))...)
		}
		seen[holdsDecode(t, b)]++
	}
	if rare := seen.Rare(api.OK, api.ErrClock); len(rare) > 0 {
		t.Errorf("rarely answered: %v, of %v", rare, seen)
	}
}
