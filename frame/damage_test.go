package frame_test

import (
	"bytes"
	"math/rand"
	"slices"
	"testing"

	"hindsight/api"
	"hindsight/frame"
)

// turned is b with these bits turned.
func turned(b []byte, bits ...int) []byte {
	out := bytes.Clone(b)
	turn(out, bits)
	return out
}

func turn(b []byte, bits []int) {
	for _, k := range bits {
		b[k/8] ^= 1 << (k % 8)
	}
}

// TestCuts cuts joined frames at every place.
func TestCuts(t *testing.T) {
	r := rand.New(rand.NewSource(11))
	for _, sizes := range [][]int{{0}, {1, 0, 7}, {0, 0, 0, 0}, {40, 3, 300, 0, 20}, {167, 167}} {
		var fs []api.Frame
		ends := []int{0}
		for _, n := range sizes {
			f := someFrame(r, 0)
			// Bodies that look like begins of frames must not be taken for them.
			f.Body = bytes.Repeat([]byte{167}, n)
			fs = append(fs, f)
			ends = append(ends, ends[len(ends)-1]+20+n)
		}
		b := join(t, fs...)
		for cut := range len(b) + 1 {
			whole, fault := len(fs), api.OK
			for ends[whole] > cut {
				whole--
			}
			if ends[whole] != cut {
				fault = api.ErrEnd
			}
			got, at, e := frame.Split(b[:cut])
			if !slices.EqualFunc(got, fs[:whole], same) || at != ends[whole] || e != fault {
				t.Errorf("P3.8: frames of %v bytes cut at %d: %d frames, %d, %d, want %d, %d, %d", sizes, cut, len(got), at, e, whole, ends[whole], fault)
			}
		}
	}
}

// damage turns bits of a frame that has other bytes behind it, asks Decode, and turns them back.
type damage struct {
	t    *testing.T
	b    []byte
	what string
}

func (d damage) told(bits []int) {
	d.t.Helper()
	turn(d.b, bits)
	if f, to, e := frame.Decode(d.b, 0); e == api.OK || to != 0 || !empty(f) {
		d.t.Fatalf("%s: the bits %v of a frame with %d bytes (some behind it) turned: %d, %d", d.what, bits, len(d.b), to, e)
	}
	turn(d.b, bits)
}

// patternBits are the places, from a place on, of the 1s of a pattern.
func patternBits(from int, pattern uint32) []int {
	var out []int
	for k := range 32 {
		if pattern>>k&1 == 1 {
			out = append(out, from+k)
		}
	}
	return out
}

// behind are the kinds of bytes that can stand behind a frame: none, and some that would go on with it.
func behind(r *rand.Rand, b []byte) [][]byte {
	return [][]byte{nil, bytes.Repeat(b, 2), make([]byte, 60), someBytes(r, 60)}
}

// TestShortBursts turns every burst of at most ten bits that small frames can have.
func TestShortBursts(t *testing.T) {
	r := rand.New(rand.NewSource(12))
	for _, n := range []int{0, 1, 5} {
		b := encode(t, api.Frame{Kind: 5, Stream: 3, Ord: 9, Body: someBytes(r, n)})
		for _, more := range behind(r, b) {
			d := damage{t, slices.Concat(b, more), "P3.9"}
			for from := range 8 * len(b) {
				// An odd pattern begins at from; those that begin later are met there.
				for pattern := uint32(1); pattern < 1<<min(10, 8*len(b)-from); pattern += 2 {
					d.told(patternBits(from, pattern))
				}
			}
		}
	}
}

// TestBursts turns bits in every window of 32: the edges, patterns out of the sum's own rule, and some of any kind.
func TestBursts(t *testing.T) {
	r := rand.New(rand.NewSource(13))
	patterns := []uint32{1, 1 << 31, 1<<31 | 1, 0xFFFFFFFF, 0xEDB88320, 0x04C11DB7, 0xDB710641, 0xFF, 0xFFFF0000}
	for _, n := range []int{0, 1, 2, 4, 13, 200} {
		b := encode(t, api.Frame{Kind: 4, Stream: 300, Ord: 70000, Body: someBytes(r, n)})
		for _, more := range behind(r, b) {
			d := damage{t, slices.Concat(b, more), "P3.9"}
			for from := range 8*len(b) - 31 {
				for _, pattern := range patterns {
					d.told(patternBits(from, pattern))
				}
				for range 20 {
					d.told(patternBits(from, r.Uint32()|1))
				}
			}
		}
	}
}

func TestBurstsInLongFrames(t *testing.T) {
	r := rand.New(rand.NewSource(14))
	for _, n := range []int{11450, 1 << 17, api.MaxBody} {
		b := encode(t, api.Frame{Kind: 4, Body: someBytes(r, n)})
		d := damage{t, b, "P3.9"}
		last := 8*len(b) - 32
		for _, from := range []int{0, 96, 127, 128, last - 33, last - 1, last, r.Intn(last), r.Intn(last), r.Intn(last)} {
			d.told(patternBits(from, 1))
			d.told(patternBits(from, 0xFFFFFFFF))
			d.told(patternBits(from, r.Uint32()|1))
		}
	}
}

// TestFewBitsAll turns every one, two and three bits of small frames.
func TestFewBitsAll(t *testing.T) {
	r := rand.New(rand.NewSource(15))
	for _, n := range []int{0, 3} {
		b := encode(t, api.Frame{Kind: 5, Ord: 3, Body: someBytes(r, n)})
		d := damage{t, slices.Concat(b, b, b), "P3.10"}
		for i := range 8 * len(b) {
			d.told([]int{i})
			for j := range i {
				d.told([]int{i, j})
				for k := range j {
					d.told([]int{i, j, k})
				}
			}
		}
	}
}

// TestFewBits turns bits of frames up to the greatest length: those of the top, of the edges, and some anywhere.
func TestFewBits(t *testing.T) {
	r := rand.New(rand.NewSource(16))
	for _, size := range []int{21, 100, 1000, 11449, 11450} {
		b := encode(t, api.Frame{Kind: 4, Stream: 1, Ord: 2, Body: someBytes(r, size-20)})
		d := damage{t, slices.Concat(b, make([]byte, 40)), "P3.10"}
		all := 8 * size
		for k := range 160 {
			d.told([]int{k})
			d.told([]int{all - 1 - k})
			d.told([]int{k, 160 + r.Intn(all-160)})
			d.told([]int{k, 160 + r.Intn((all-160)/2), all - 1 - r.Intn(4)})
		}
		for range 2000 {
			d.told(unlikeBits(r, all, 1+r.Intn(3)))
		}
	}
}

func unlikeBits(r *rand.Rand, all, count int) []int {
	var out []int
	for len(out) < count {
		if k := r.Intn(all); !slices.Contains(out, k) {
			out = append(out, k)
		}
	}
	return out
}
