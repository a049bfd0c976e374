package salvage_test

import (
	"bytes"
	"math/rand"
	"slices"
	"testing"

	"hindsight/api"
	"hindsight/frame"
	"hindsight/salvage"
	"hindsight/samples"
)

// TestTooLarge: a byte more than a file may have, whatever the bytes are.
func TestTooLarge(t *testing.T) {
	a := fileA(t)
	for name, begin := range map[string][]byte{"zeros": nil, "a file": a} {
		b := make([]byte, maxFile+1)
		copy(b, begin)
		if spots, between, e := salvage.Scan(b); spots != nil || between != nil || e != api.ErrLarge {
			t.Errorf("P13.1: %s, a byte too many: Scan = %v, %v, %d", name, spots, between, e)
		}
		if r, e := salvage.Save(b); !sameRescue(r, api.Rescue{}) || e != api.ErrLarge {
			t.Errorf("P13.2: %s, a byte too many: Save = %v, %d", name, r, e)
		}
		if m, e := salvage.Mend(b); m != nil || e != api.ErrLarge {
			t.Errorf("P13.3: %s, a byte too many: Mend = %v, %d", name, m, e)
		}
	}
}

// TestLargest: as many bytes as a file may have: zeros, but for A ahead of them and A at their end.
func TestLargest(t *testing.T) {
	a := fileA(t)
	b := make([]byte, maxFile)
	copy(b, a)
	copy(b[maxFile-lengthOfA:], a)
	spots := append(spotsOfA(0), spotsOfA(maxFile-lengthOfA)...)
	scans(t, "the most bytes", b, spots, bad(lengthOfA, maxFile-lengthOfA))
	saves(t, "the most bytes", b, api.Rescue{Events: two(), Stamps: []int{0, 1}, Prefix: 2, Bad: bad(lengthOfA, maxFile)})
	mends(t, "the most bytes", b, a, api.OK)
	clear(b)
	scans(t, "the most zeros", b, nil, bad(0, maxFile))
	saves(t, "the most zeros", b, api.Rescue{Bad: bad(0, maxFile)})
	mends(t, "the most zeros", b, nil, api.ErrHead)
}

// TestManyTops: where right tops of long frames stand everywhere, to take each frame's sum byte by byte
// would be the work of hours.
func TestManyTops(t *testing.T) {
	a := fileA(t)
	b := slices.Concat(bytes.Repeat(top(4, maxBody), 1<<19), a)
	scans(t, "tops", b, spotsOfA(1<<23), bad(0, 1<<23))
	saves(t, "tops", b, api.Rescue{Bad: bad(0, len(b))})
	// Each of these ends where the one behind it does, and the last one is whole.
	var nest []byte
	last := samples.Joined([]api.Frame{{Kind: 9, Body: make([]byte, 100)}})
	for k := range 1 << 16 {
		n := 16*(1<<16-1-k) + len(last) - 4
		nest = append(nest, top(4, uint32(n))...)
	}
	from := len(nest)
	nest = append(nest, last...)
	scans(t, "tops with one end", nest, []api.Spot{{Kind: 9, From: from, To: len(nest), First: -1, Last: -1}}, bad(0, from))
	saves(t, "tops with one end", nest, api.Rescue{Bad: bad(0, len(nest))})
}

// TestLongFrames: frames with bodies of the greatest length, whole and damaged.
func TestLongFrames(t *testing.T) {
	body := make([]byte, maxBody)
	rand.New(rand.NewSource(138)).Read(body)
	long := samples.Joined([]api.Frame{{Kind: 7, Body: body}})
	a := fileA(t)
	for _, b := range [][]byte{long, slices.Concat(a, long, a), slices.Concat(long[1:], long)} {
		holds(t, "a long frame", b)
		holds(t, "a long frame, damaged", turned(b, len(b)/2))
		holds(t, "a long frame, cut", b[:len(b)-1])
	}
	spots, between, _ := salvage.Scan(slices.Concat(a[:7], long, a[:9]))
	if !slices.Equal(spots, []api.Spot{{Kind: 7, From: 7, To: 7 + len(long), First: -1, Last: -1}}) || !slices.Equal(between, bad(0, 7, 7+len(long), 16+len(long))) {
		t.Errorf("P13.1: a long frame among others: %v, %v", spots, between)
	}
}

// TestTooMuchText: strings that are sure, but too long together for one file.
func TestTooMuchText(t *testing.T) {
	for _, n := range []int{64, 65} {
		fs := []api.Frame{raw(1, 1, 64, 0, 0, 0, 0)}
		var back []uint64
		var recs []api.Rec
		var want []api.Event
		for k, s := range samples.Longest(n) {
			fs = append(fs, texts(uint64(k), s))
			back = append(back, uint64(k), uint64(k))
			recs = append(recs, marked(k, k+1))
			want = append(want, api.Event{Kind: api.Mark, Stack: []string{s}})
		}
		fs = append(fs, nodes(1, back...), events(0, recs...))
		b := samples.Joined(fs)
		r, e := salvage.Save(b)
		if e != api.OK || !sameTrace(r.Events, want) || r.Prefix != n || r.Bad != nil || r.Whole {
			t.Fatalf("P13.2: %d long strings: %d events, %d, %v, %d", n, len(r.Events), r.Prefix, r.Bad, e)
		}
		if n*maxSite <= maxText {
			mends(t, "much text", b, recorded(t, want, 64), api.OK)
			continue
		}
		if m, e := salvage.Mend(b); m != nil || e != api.ErrLarge {
			t.Errorf("P13.3: too much text: Mend = %d bytes, %d", len(m), e)
		}
		// Behind a gap they don't count.
		b = samples.Joined(slices.Delete(fs, 3, 4))
		mends(t, "too much text behind a gap", b, recorded(t, want[:2], 64), api.OK)
	}
}

// TestManyEvents: a trace with as many events as there may be, whole, and with a chunk damaged.
func TestManyEvents(t *testing.T) {
	trace := make([]api.Event, maxEvents)
	for k := range trace {
		trace[k] = api.Event{G: k % 3, Kind: api.Mark, Obj: uint64(k % 50), Stack: []string{"work", "main"}}
	}
	b := recorded(t, trace, 1<<16)
	r, e := salvage.Save(b)
	if e != api.OK || !sameTrace(r.Events, trace) || len(r.Stamps) != maxEvents || r.Prefix != maxEvents || r.Bad != nil || !r.Whole {
		t.Fatalf("P13.2: the most events: %d, %d, %d", len(r.Events), r.Prefix, e)
	}
	spots, _, _ := salvage.Scan(b)
	hit := spots[5]
	if hit.Kind != api.FrameEvents {
		t.Fatalf("the fifth frame is %v", hit)
	}
	c := turned(b, hit.From+100)
	saves(t, "a chunk of many damaged", c, plainSave(c))
	mended, e := salvage.Mend(c)
	if want := recorded(t, trace[:hit.First], 1<<16); e != api.OK || !bytes.Equal(mended, want) {
		t.Errorf("P13.3: a chunk of many damaged: %d bytes, %d", len(mended), e)
	}
}

// TestOftenTold: very many records, most of which tell again what was told.
func TestOftenTold(t *testing.T) {
	chunk, e := frame.Encode(api.Frame{Kind: 4, Stream: 5, Body: bytes.Repeat([]byte{22, 0}, maxEvents)})
	if e != api.OK {
		t.Fatalf("P3.1: Encode = %d", e)
	}
	unsure, _ := frame.Encode(api.Frame{Kind: 4, Body: bytes.Repeat([]byte{1, 0}, maxEvents)})
	r, e := salvage.Save(slices.Concat(unsure, unsure, chunk, chunk, chunk))
	if e != api.OK || len(r.Events) != maxEvents || r.Prefix != maxEvents || r.Bad != nil || r.Whole {
		t.Fatalf("P13.2: records told again and again: %d, %d, %d", len(r.Events), r.Prefix, e)
	}
	if slices.ContainsFunc(r.Events, func(e api.Event) bool { return e.G != 5 || e.Kind != api.Mark }) {
		t.Errorf("P13.2: an event is another one")
	}
}
