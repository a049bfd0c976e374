package watch_test

import (
	"math/rand"
	"slices"
	"testing"

	"hindsight/api"
	"hindsight/frame"
	"hindsight/samples"
	"hindsight/watch"
)

// TestEveryByteDamaged: bits of each byte turned, the recording at once, byte by byte, and cut at the damage.
func TestEveryByteDamaged(t *testing.T) {
	whole := taped(t, many, 64, 2)
	counts := map[int]int{}
	for at := range whole {
		for _, bits := range []byte{1, 4, 128, 255} {
			b := slices.Clone(whole)
			b[at] ^= bits
			v, e := pushes(t, b)
			if e != api.ErrSpoilt {
				t.Fatalf("P26.5: Close with the byte %d damaged = %v, %d", at, v, e)
			}
			pushes(t, b[:at], b[at:])
			pushes(t, b[:at+1], b[at+1:])
			if bits == 4 {
				two := begin(t)
				for _, piece := range sized(b, 1) {
					two.push(piece)
				}
				counts[two.watch.Events()]++
				two.close()
			}
		}
	}
	if len(counts) != 5 {
		t.Errorf("so many events were left: %v", counts)
	}
}

// TestPutInAndTakenOut: a byte more at each place, and a byte less, and bytes in another order.
func TestPutInAndTakenOut(t *testing.T) {
	whole := taped(t, many, 64, 3)
	for at := range whole {
		for _, b := range []byte{0, 167, whole[at]} {
			pushes(t, slices.Insert(slices.Clone(whole), at, b))
		}
		less := slices.Delete(slices.Clone(whole), at, at+1)
		pushes(t, less)
		pushes(t, less[:at], less[at:])
		pushes(t, whole[at:], whole[:at])
	}
}

// framed are the frames of a recording, as they stand.
func framed(t *testing.T, b []byte) []api.Frame {
	t.Helper()
	fs, _, e := frame.Split(b)
	if e != api.OK {
		t.Fatalf("Split = %d", e)
	}
	return fs
}

// TestBehindTheLastFrame: what may not be next, whole or not, behind each frame: nothing behind it counts, not
// even what would come else, and Close is ErrSpoilt.
func TestBehindTheLastFrame(t *testing.T) {
	whole := taped(t, f1, 64, 1)
	ends := frameEnds(t, whole)
	for k, end := range ends {
		for _, f := range []api.Frame{
			{Kind: api.FrameHead, Ord: k, Body: []byte{1, 64, 0, 0, 0}},
			{Kind: api.FrameHead, Ord: k, Body: []byte{1, 64, 1, 0, 0, 0}},
			{Kind: api.FrameFoot, Ord: k, Body: []byte{byte(k), 0, 0, 0, 0}},
			{Kind: api.FrameStrings, Ord: k, Body: []byte{9, 1, 97}},
			{Kind: api.FrameStacks, Ord: k, Body: []byte{9, 0, 0}},
			{Kind: api.FrameEvents, Ord: k, Body: []byte{9, 0, 22, 0}},
			{Kind: api.FrameEvents, Ord: k + 1, Body: []byte{0, 0, 22, 0}},
			{Kind: api.FrameEvents, Ord: k, Stream: 1, Body: []byte{0, 0, 22, 0}},
			{Kind: 77, Ord: k},
		} {
			wrong, _ := frame.Encode(f)
			v, e := pushes(t, whole[:end], wrong, whole[end:])
			is(t, "P26.5: Close", v, e, api.Verdict{}, api.ErrSpoilt)
			pushes(t, slices.Concat(whole[:end], wrong, whole[end:]))
			pushes(t, sized(slices.Concat(whole[:end], wrong, whole[end:]), 1)...)
			pushes(t, whole[:end], wrong, whole)
		}
		for _, wrong := range [][]byte{{0}, {166}, {168}, {167, 0}, make([]byte, 40), whole, whole[:5]} {
			if _, e := pushes(t, whole[:end], wrong, whole[end:]); e != api.ErrSpoilt {
				t.Errorf("P26.5: Close, with %v behind the frame %d, = %d", wrong, k, e)
			}
			if _, e := pushes(t, whole[:end], whole[end:], wrong, whole); e != api.ErrSpoilt {
				t.Errorf("P26.5: Close, with %v behind all, = %d", wrong, e)
			}
		}
	}
}

// TestFramesElsewhere: frames of a recording left out, doubled and changed with each other.
func TestFramesElsewhere(t *testing.T) {
	r := rand.New(rand.NewSource(266))
	fs := framed(t, taped(t, many, 64, 2))
	for k := range fs {
		pushes(t, samples.Joined(slices.Delete(slices.Clone(fs), k, k+1)))
		pushes(t, samples.Joined(slices.Insert(slices.Clone(fs), k, fs[k])))
		for n := range fs {
			other := slices.Clone(fs)
			other[k], other[n] = other[n], other[k]
			pushes(t, samples.Joined(other))
			for i := range other {
				other[i].Ord = i
			}
			pushes(t, somePieces(r, samples.Joined(other))...)
		}
	}
}

// TestDamage: recordings of all sorts, damaged in many ways, in pieces of any size.
func TestDamage(t *testing.T) {
	r := rand.New(rand.NewSource(267))
	seen := samples.Seen{}
	for range 1000 {
		b := taped(t, someTrace(r, 30), 64, r.Intn(6))
		for range r.Intn(3) {
			b = slices.Concat(samples.Damage(r.Intn, [][]byte{b})...)
		}
		_, e := pushes(t, somePieces(r, b)...)
		seen[e]++
	}
	if rare := seen.Rare(api.OK, api.ErrSpoilt); len(rare) > 0 {
		t.Errorf("seen were %v", seen)
	}
}

// TestFramesCutAnyhow: how the frames' bodies are cut is nothing to a recording: more frames than a recorder
// would write, and fewer.
func TestFramesCutAnyhow(t *testing.T) {
	fs := []api.Frame{
		{Kind: api.FrameHead, Body: []byte{1, 64, 0, 0, 0, 0}},
		{Kind: api.FrameStrings, Body: []byte{0, 1, 97}},
		{Kind: api.FrameStrings, Body: []byte{1, 1, 98, 0}},
		{Kind: api.FrameStacks, Body: []byte{1, 0, 0, 0, 1}},
		{Kind: api.FrameEvents, Body: []byte{0, 0, api.Fork + 64, 0, 1}},
		{Kind: api.FrameEvents, Body: []byte{1, 0, api.Mark, 0, 1, api.Mark, 0}},
		{Kind: api.FrameStacks, Body: []byte{3, 0, 2}},
		{Kind: api.FrameEvents, Body: []byte{3, 1, api.Mark + 128, 0, 6}},
	}
	for k := range fs {
		fs[k].Ord = k
	}
	b := samples.Joined(fs)
	w := watch.New()
	w.Push(b)
	pushes(t, b)
	pushes(t, sized(b, 1)...)
	v, e := w.Close()
	is(t, "P26.5: Close", v, e, verdict(4), api.OK)
}
