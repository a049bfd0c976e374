package file_test

import (
	"bytes"
	"math/rand"
	"slices"
	"strings"
	"testing"

	"hindsight/api"
	"hindsight/file"
)

// told holds that a damaged file is not read.
func told(t *testing.T, what string, b []byte) {
	t.Helper()
	if got, e := file.Load(b); e == api.OK || len(got) != 0 {
		t.Fatalf("P11.7: %s: Load = %d events, %d", what, len(got), e)
	}
}

// parts are the frames of a file as bytes.
func parts(t *testing.T, b []byte) [][]byte {
	t.Helper()
	var out [][]byte
	at := 0
	for _, f := range split(t, b) {
		next := at + 20 + len(f.Body)
		out = append(out, b[at:next])
		at = next
	}
	return out
}

// sample is a file that is to be damaged.
type sample struct {
	name string
	b    []byte
}

// toDamage are files with frames of all kinds, small ones and great ones, also some of 11450 bytes.
func toDamage(t *testing.T) []sample {
	t.Helper()
	return []sample{
		{"no events", record(t, nil, 64)},
		{"one mark", record(t, []api.Event{mark(0)}, 64)},
		{"a goroutine", record(t, slices.Repeat([]api.Event{mark(7)}, 200), 64)},
		{"two goroutines", record(t, slices.Repeat([]api.Event{mark(0), mark(9, "f", "main")}, 40), 64)},
		{"many sorts", record(t, rich(), 64)},
		{"many sorts, uncut", record(t, rich(), maxLimit)},
		{"a long string", record(t, []api.Event{mark(0, strings.Repeat("x", 11450-20-3)), mark(1)}, 64)},
		{"a longest string", record(t, []api.Event{mark(0, strings.Repeat("x", 65536)), mark(1)}, 64)},
		{"a long stream", record(t, slices.Repeat([]api.Event{mark(0), mark(1)}, 5716), 11430)},
	}
}

// TestLongFrames: the test's own files have frames of the greatest length for which three bits are promised,
// and longer ones.
func TestLongFrames(t *testing.T) {
	for _, x := range toDamage(t) {
		var sizes []int
		for _, p := range parts(t, x.b) {
			sizes = append(sizes, len(p))
		}
		if strings.HasPrefix(x.name, "a long ") && !slices.Contains(sizes, 11450) || x.name == "a longest string" && slices.Max(sizes) < 65536 {
			t.Errorf("the file with %s has frames of %v bytes", x.name, sizes)
		}
	}
}

// turned asks Load of a file with bits turned that are counted from a place on, and turns them back.
func turned(t *testing.T, what string, b []byte, from int, bits ...int) {
	t.Helper()
	for range 2 {
		for _, k := range bits {
			b[from+k/8] ^= 1 << (k % 8)
		}
		if what != "" {
			told(t, what, b)
		}
		what = ""
	}
}

// TestTurnedBits: in every frame one, two and three bits, and bursts.
func TestTurnedBits(t *testing.T) {
	r := rand.New(rand.NewSource(114))
	for _, x := range toDamage(t) {
		name, b := x.name, x.b
		good, from := bytes.Clone(b), 0
		for _, p := range parts(t, good) {
			all := 8 * len(p)
			for range min(all, 300) {
				turned(t, name+": a bit", b, from, r.Intn(all))
			}
			for k := range 160 { // the top, and the frame's sum
				turned(t, name+": a bit", b, from, k)
				turned(t, name+": a bit", b, from, all-1-k)
			}
			for range 60 {
				burst(t, r, name, b, from, all)
			}
			if len(p) > 11450 {
				from += len(p)
				continue
			}
			for range 60 {
				bits := r.Perm(all)
				turned(t, name+": two bits", b, from, bits[:2]...)
				turned(t, name+": three bits", b, from, bits[2:5]...)
			}
			from += len(p)
		}
		if !bytes.Equal(b, good) {
			t.Fatalf("the test's own bits are not turned back")
		}
		loads(t, name, b, plainTrace(t, good), api.OK)
	}
}

// burst turns bits within 32 that follow one another.
func burst(t *testing.T, r *rand.Rand, name string, b []byte, from, all int) {
	t.Helper()
	window := r.Intn(all - 31)
	pattern := r.Uint32()
	if r.Intn(4) == 0 {
		pattern = []uint32{0xFFFFFFFF, 0xEDB88320, 0x04C11DB7, 0xDB710641, 1<<31 | 1}[r.Intn(5)]
	}
	var bits []int
	for k := range 32 {
		if pattern>>k&1 == 1 {
			bits = append(bits, window+k)
		}
	}
	if len(bits) > 0 {
		turned(t, name+": a burst", b, from, bits...)
	}
}

func plainTrace(t *testing.T, b []byte) []api.Event {
	t.Helper()
	trace, e := plainLoad(b)
	if e != api.OK {
		t.Fatalf("P11.1: a file that Record made can't be read: %d", e)
	}
	return trace
}

// TestAllBits: every bit of a file, alone, and with the one and the two ahead of it.
func TestAllBits(t *testing.T) {
	b := record(t, rich(), 64)
	for k := range 8 * len(b) {
		turned(t, "a bit", b, 0, k)
	}
	at := 0
	for _, p := range parts(t, bytes.Clone(b)) {
		for k := 2; k < 8*len(p); k++ {
			turned(t, "two bits", b, at, k, k-1)
			turned(t, "three bits", b, at, k, k-1, k-2)
		}
		at += len(p)
	}
}

// TestFramesMoved: every frame is taken away, is doubled, with the copy at every place, and changes places
// with every other one.
func TestFramesMoved(t *testing.T) {
	for _, x := range toDamage(t) {
		name, b := x.name, x.b
		all := parts(t, b)
		n := len(all)
		places := make([]int, 0, n)
		for k := range n { // of many frames some: the first ones and the last ones among them
			if n < 60 || k < 15 || k >= n-15 {
				places = append(places, k)
			}
		}
		for _, k := range places {
			told(t, name+": a frame is taken away", bytes.Join(slices.Delete(slices.Clone(all), k, k+1), nil))
			for _, j := range append(places, n) {
				told(t, name+": a frame is doubled", bytes.Join(slices.Insert(slices.Clone(all), j, all[k]), nil))
			}
			for _, j := range places {
				if j < k && !bytes.Equal(all[j], all[k]) {
					moved := slices.Clone(all)
					moved[j], moved[k] = moved[k], moved[j]
					told(t, name+": two frames change places", bytes.Join(moved, nil))
				}
			}
		}
	}
}

// TestEnds: every beginning of a file, and a file with all sorts of bytes behind it.
func TestEnds(t *testing.T) {
	r := rand.New(rand.NewSource(115))
	for _, x := range toDamage(t) {
		name, b := x.name, x.b
		all := parts(t, b)
		for k := range len(b) {
			if k < 3000 || k > len(b)-3000 {
				told(t, name+": bytes are cut off the end", b[:k])
			}
		}
		more := [][]byte{{0}, {167}, {255}, make([]byte, 60), b, all[len(all)-1], all[0], bytes.Join(all[1:], nil), bytes.Join(all[:len(all)-1], nil), record(t, nil, 64), record(t, []api.Event{mark(5)}, 100)}
		for range 50 {
			some := make([]byte, 1+r.Intn(100))
			r.Read(some)
			more = append(more, some)
		}
		for _, m := range more {
			told(t, name+": bytes are put behind it", slices.Concat(b, m))
		}
	}
}

// TestCutBetweenFrames: of a file that is cut between two frames the foot is missing.
func TestCutBetweenFrames(t *testing.T) {
	b := record(t, rich(), 64)
	at := 0
	for k, p := range parts(t, b) {
		want := api.ErrFoot
		if k == 0 {
			want = api.ErrHead
		}
		refused(t, "P11.2: cut between two frames", b[:at], want)
		at += len(p)
	}
}
