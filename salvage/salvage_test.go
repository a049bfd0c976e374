package salvage_test

import (
	"bytes"
	"math/rand"
	"slices"
	"strconv"
	"testing"

	"hindsight/api"
	"hindsight/crc"
	"hindsight/file"
	"hindsight/frame"
	"hindsight/salvage"
	"hindsight/samples"
)

func recorded(t *testing.T, trace []api.Event, limit int) []byte {
	t.Helper()
	b, e := file.Record(trace, limit)
	if e != api.OK {
		t.Fatalf("P11.1: Record of %d events, for the limit %d = %d", len(trace), limit, e)
	}
	return b
}

// two is the trace of the chapter's examples; its file for the limit 64 is A.
func two() []api.Event {
	return []api.Event{{Kind: api.Mark, Stack: []string{"f", "main"}}, {Kind: api.Mark}}
}

// The places of A at which its frames begin, and its length.
const (
	stringsAt = 26
	stacksAt  = 54
	eventsAt  = 79
	footAt    = 105
	lengthOfA = 130
)

func fileA(t *testing.T) []byte {
	t.Helper()
	b := recorded(t, two(), 64)
	if len(b) != lengthOfA || b[stringsAt+1] != 2 || b[stacksAt+1] != 3 || b[eventsAt+1] != 4 || b[footAt+1] != 5 {
		t.Fatalf("the frames of A lie otherwise: %v", b)
	}
	return b
}

func spotsOfA(from int) []api.Spot {
	return []api.Spot{
		{Kind: 1, Ord: 0, From: from, To: from + stringsAt, First: -1, Last: -1},
		{Kind: 2, Ord: 1, From: from + stringsAt, To: from + stacksAt, First: -1, Last: -1},
		{Kind: 3, Ord: 2, From: from + stacksAt, To: from + eventsAt, First: -1, Last: -1},
		{Kind: 4, Ord: 3, From: from + eventsAt, To: from + footAt, First: 0, Last: 1, Count: 2},
		{Kind: 5, Ord: 4, From: from + footAt, To: from + lengthOfA, First: -1, Last: -1},
	}
}

func turned(b []byte, at int) []byte {
	out := bytes.Clone(b)
	out[at] ^= 16
	return out
}

func bad(places ...int) []api.Span {
	var out []api.Span
	for k := 0; k < len(places); k += 2 {
		out = append(out, api.Span{From: places[k], To: places[k+1]})
	}
	return out
}

// TestExamples are those of the chapter.
func TestExamples(t *testing.T) {
	a := fileA(t)
	both := api.Rescue{Events: two(), Stamps: []int{0, 1}, Prefix: 2}
	second := api.Rescue{Events: two()[1:], Stamps: []int{1}}
	with := func(r api.Rescue, bad []api.Span) api.Rescue {
		r.Bad = bad
		return r
	}
	whole := both
	whole.Whole = true
	empty := recorded(t, nil, 64)
	for _, c := range []struct {
		name   string
		b      []byte
		want   api.Rescue
		mended []byte // nil: ErrHead
	}{
		{"1", a, whole, a},
		{"2: the strings' body", turned(a, stringsAt+16), with(second, bad(stringsAt, stacksAt)), empty},
		{"3: the events' body", turned(a, eventsAt+16), api.Rescue{Bad: bad(eventsAt, footAt)}, empty},
		{"4: the strings' top", turned(a, stringsAt), api.Rescue{Bad: bad(stringsAt, lengthOfA)}, empty},
		{"5: without its last byte", a[:lengthOfA-1], with(both, bad(footAt, lengthOfA-1)), a},
		{"6: a byte behind it", append(bytes.Clone(a), 0), with(both, bad(lengthOfA, lengthOfA+1)), a},
		{"6: no bytes", nil, api.Rescue{}, nil},
		{"7: without the stacks", slices.Concat(a[:stacksAt], a[eventsAt:]), second, empty},
		{"8: the events twice", slices.Concat(a[:footAt], a[eventsAt:]), both, a},
		{"9: a byte ahead of it", append([]byte{0}, a...), api.Rescue{Bad: bad(0, lengthOfA+1)}, nil},
	} {
		saves(t, "example "+c.name, c.b, c.want)
		fault := api.OK
		if c.mended == nil {
			fault = api.ErrHead
		}
		mends(t, "example "+c.name, c.b, c.mended, fault)
	}
	scans(t, "example 1", a, spotsOfA(0), nil)
	scans(t, "example 9", append([]byte{0}, a...), spotsOfA(1), bad(0, 1))
	scans(t, "no bytes", nil, nil, nil)
}

// TestEveryBit turns each bit of A alone.
func TestEveryBit(t *testing.T) {
	a := fileA(t)
	ends := []int{0, stringsAt, stacksAt, eventsAt, footAt, lengthOfA}
	for bit := range 8 * len(a) {
		b := bytes.Clone(a)
		b[bit/8] ^= 1 << (bit % 8)
		got := holds(t, "a bit of A", b)
		k, _ := slices.BinarySearch(ends, bit/8+1)
		from, to := ends[k-1], ends[k]
		if bit/8 < from+16 {
			to = lengthOfA
		}
		if !slices.Equal(got.Bad, bad(from, to)) || got.Whole {
			t.Fatalf("P13.2: the bit %d of A turned: bad %v, want %d to %d", bit, got.Bad, from, to)
		}
	}
}

// TestEveryCut cuts A, and a richer file, at every place; and leaves out every beginning.
func TestEveryCut(t *testing.T) {
	for _, b := range [][]byte{fileA(t), recorded(t, rich()[:25], 64)} {
		for cut := range len(b) + 1 {
			holds(t, "what lies ahead of a cut", b[:cut])
			holds(t, "what lies behind a cut", b[cut:])
		}
	}
}

// TestAheadAndBehind puts bytes of all sorts ahead of A and behind it.
func TestAheadAndBehind(t *testing.T) {
	a := fileA(t)
	more := [][]byte{{0}, {167}, a[:15], a[:16], a[:25], a[:26], a[footAt:], a, make([]byte, 300), bytes.Repeat([]byte{167}, 40), top(4, 0), top(4, 4), top(4, 130), top(4, 1000)}
	for _, extra := range more {
		holds(t, "bytes ahead", slices.Concat(extra, a))
		holds(t, "bytes behind", slices.Concat(a, extra))
		holds(t, "bytes between", slices.Concat(a[:stacksAt], extra, a[stacksAt:]))
	}
}

// top is a top with a right check sum.
func top(kind byte, n uint32) []byte {
	out := []byte{167, kind, 0, 0, 0, 0, 0, 0, byte(n), byte(n >> 8), byte(n >> 16), byte(n >> 24)}
	sum := crc.Sum(out)
	return append(out, byte(sum), byte(sum>>8), byte(sum>>16), byte(sum>>24))
}

// TestTops: which tops are right is seen at how far the bad bytes go.
func TestTops(t *testing.T) {
	a := fileA(t)
	mark := []api.Event{{Kind: api.Mark}}
	tail := recorded(t, mark, 64)[26:48] // a chunk with the stamp 0
	sumless := func(kind byte, n uint32, body int) []byte {
		return append(top(kind, n), make([]byte, body+4)...)
	}
	for _, c := range []struct {
		name  string
		first []byte
		right bool
	}{
		{"a body of 0 bytes", sumless(4, 0, 0), true},
		{"a body of 5 bytes", sumless(4, 5, 5), true},
		{"a body of MaxBody bytes", sumless(4, maxBody, maxBody), true},
		{"a body of MaxBody + 1 bytes", sumless(4, maxBody+1, maxBody+1), false},
		{"the kind 255", sumless(255, 3, 3), true},
		{"the kind 1", sumless(1, 3, 3), true},
		{"the kind 0", sumless(0, 3, 3), false},
		{"another first byte, with a right sum", otherFirst(sumless(4, 3, 3)), false},
		{"a top's sum that is none", turned(sumless(4, 3, 3), 12), false},
		{"a top's sum that is none, at its end", turned(sumless(4, 3, 3), 15), false},
	} {
		b := slices.Concat(c.first, tail)
		want := api.Rescue{Bad: bad(0, len(b))}
		if c.right {
			want = api.Rescue{Events: mark, Stamps: []int{0}, Prefix: 1, Bad: bad(0, len(c.first))}
		}
		saves(t, c.name, b, want)
		holds(t, c.name, b)
		holds(t, c.name+" behind A", slices.Concat(a, b))
	}
	// As many bytes as the top tells, and one fewer.
	b := slices.Concat(sumless(4, 5, 5), sumless(4, 700, 700))
	saves(t, "frames up to the end", b, api.Rescue{Bad: bad(0, len(b))})
	saves(t, "a frame up to the end", b[:25], api.Rescue{Bad: bad(0, 25)})
	saves(t, "a byte is missing", slices.Concat(tail, b[:24]), api.Rescue{Events: mark, Stamps: []int{0}, Prefix: 1, Bad: bad(22, 46)})
}

// otherFirst is a frame that begins with another byte; its top's sum is right.
func otherFirst(b []byte) []byte {
	out := bytes.Clone(b)
	out[0] = 168
	sum := crc.Sum(out[:12])
	copy(out[12:], []byte{byte(sum), byte(sum >> 8), byte(sum >> 16), byte(sum >> 24)})
	return out
}

// TestHead: which first frames are heads for Mend.
func TestHead(t *testing.T) {
	a := fileA(t)
	rest := a[stringsAt:]
	for _, c := range []struct {
		name  string
		first api.Frame
		limit int // 0: ErrHead
	}{
		{"the head", api.Frame{Kind: 1, Body: []byte{1, 64, 2, 1, 2, 2}}, 64},
		{"another stream", api.Frame{Kind: 1, Stream: 7, Body: []byte{1, 64, 2, 1, 2, 2}}, 64},
		{"another ord", api.Frame{Kind: 1, Ord: 9, Body: []byte{1, 64, 2, 1, 2, 2}}, 64},
		{"other counts", api.Frame{Kind: 1, Body: []byte{1, 64, 9, 9, 9, 0}}, 64},
		{"another limit", api.Frame{Kind: 1, Body: []byte{1, 65, 2, 1, 2, 2}}, 65},
		{"the greatest limit", api.Frame{Kind: 1, Body: []byte{1, 128, 128, 64, 0, 0, 0, 0}}, 1048576},
		{"too great a limit", api.Frame{Kind: 1, Body: []byte{1, 129, 128, 64, 0, 0, 0, 0}}, 0},
		{"too small a limit", api.Frame{Kind: 1, Body: []byte{1, 63, 2, 1, 2, 2}}, 0},
		{"another kind", api.Frame{Kind: 2, Body: []byte{1, 64, 2, 1, 2, 2}}, 0},
		{"a foot's kind", api.Frame{Kind: 5, Body: []byte{1, 64, 2, 1, 2, 2}}, 0},
		{"another form", api.Frame{Kind: 1, Body: []byte{2, 64, 2, 1, 2, 2}}, 0},
		{"a byte too few", api.Frame{Kind: 1, Body: []byte{1, 64, 2, 1, 2}}, 0},
		{"a byte too many", api.Frame{Kind: 1, Body: []byte{1, 64, 2, 1, 2, 2, 0}}, 0},
		{"no body", api.Frame{Kind: 1}, 0},
	} {
		b := append(samples.Joined([]api.Frame{c.first}), rest...)
		if c.limit == 0 {
			mends(t, c.name, b, nil, api.ErrHead)
		} else {
			mends(t, c.name, b, recorded(t, two(), c.limit), api.OK)
		}
		holds(t, c.name, b)
	}
	// A head that is not the first thing does not count, whatever is ahead of it.
	mends(t, "a head behind a frame", slices.Concat(rest, a), nil, api.ErrHead)
	mends(t, "a head behind a bad frame", slices.Concat(turned(a[:stringsAt], 17), a), nil, api.ErrHead)
	// Of two heads the first one tells the limit.
	other := recorded(t, two(), 100)
	mends(t, "two heads", slices.Concat(a[:stringsAt], other), a, api.OK)
	mends(t, "two heads", slices.Concat(other[:26], a), other, api.OK)
}

// TestInsideAString: what looks like frames inside a string is listed by Scan, if it lies in no frame, and
// nowhere else.
func TestInsideAString(t *testing.T) {
	a := fileA(t)
	trace := []api.Event{{Kind: api.Mark, Obj: 5, Stack: []string{string(a)}}}
	b := recorded(t, trace, 1000)
	spots, between := plainScan(b)
	if len(spots) != 5 || between != nil {
		t.Fatalf("the file of such a string is %v, %v", spots, between)
	}
	holds(t, "a string of frames", b)
	inside := spots[1].From + 16 + 3 // behind the top, the number of the string and its length
	lost := turned(b, spots[1].From+5)
	want := slices.Concat(spots[:1], spotsOfA(inside), spots[2:])
	scans(t, "a string of frames behind a lost top", lost, want, bad(spots[1].From, inside, inside+lengthOfA, spots[2].From))
	saves(t, "a string of frames behind a lost top", lost, api.Rescue{Bad: bad(spots[1].From, len(b))})
	damaged := turned(b, spots[2].From-1)
	scans(t, "a string of frames in a damaged frame", damaged, want, bad(spots[1].From, inside, inside+lengthOfA, spots[2].From))
	saves(t, "a string of frames in a damaged frame", damaged, api.Rescue{Bad: bad(spots[1].From, spots[2].From)})
}

// TestScanLengths: frames of many lengths at many places, among other bytes and such as look like tops.
func TestScanLengths(t *testing.T) {
	r := rand.New(rand.NewSource(131))
	for round := range 300 {
		var b []byte
		for range r.Intn(8) {
			junk := make([]byte, r.Intn(2)*r.Intn(600))
			r.Read(junk)
			b = append(b, junk...)
			if r.Intn(4) == 0 {
				b = append(b, top(4, uint32(r.Intn(900)))...)
			}
			body := make([]byte, r.Intn(3)*r.Intn(700))
			r.Read(body)
			if r.Intn(3) == 0 && len(body) >= 50 {
				copy(body[r.Intn(len(body)-40):], top(4, uint32(r.Intn(300))))
			}
			f, _ := frame.Encode(api.Frame{Kind: 1 + r.Intn(255), Stream: r.Intn(65536), Ord: r.Intn(1 << 32), Body: body})
			b = append(b, f...)
			if r.Intn(5) == 0 {
				b[len(b)-1-r.Intn(len(f))] ^= 1 << r.Intn(8)
			}
		}
		holds(t, "the bytes "+strconv.Itoa(round), b)
	}
}

// TestScanChunks: what Scan tells of a frame of events, and of others with the same body.
func TestScanChunks(t *testing.T) {
	for _, c := range []struct {
		f           api.Frame
		first, last int
		count       int
	}{
		{api.Frame{Kind: 4, Body: []byte{22, 0}}, 0, 0, 1},
		{api.Frame{Kind: 4, Stream: 65535, Ord: 1<<32 - 1, Body: []byte{22, 7, 22, 3, 22, 0}}, 7, 12, 3},
		{api.Frame{Kind: 4, Body: []byte{1, 5}}, 5, 5, 1}, // a read of no bytes is no good event, but a record
		{api.Frame{Kind: 4, Body: []byte{150, 5, 200, 1}}, 5, 5, 1},
		{api.Frame{Kind: 4, Body: []byte{22, 0, 22}}, -1, -1, 0},
		{api.Frame{Kind: 4, Body: []byte{23, 0}}, -1, -1, 0},
		{api.Frame{Kind: 4}, -1, -1, 0},
		{api.Frame{Kind: 3, Body: []byte{22, 0}}, -1, -1, 0},
		{api.Frame{Kind: 5, Body: []byte{22, 0}}, -1, -1, 0},
		{api.Frame{Kind: 255, Stream: 3, Body: []byte{22, 0}}, -1, -1, 0},
	} {
		b := samples.Joined([]api.Frame{c.f})
		want := api.Spot{Kind: c.f.Kind, Stream: c.f.Stream, Ord: c.f.Ord, From: 0, To: len(b), First: c.first, Last: c.last, Count: c.count}
		scans(t, "a frame alone", b, []api.Spot{want}, nil)
		holds(t, "a frame alone", b)
	}
}

// TestNothing: without bytes, nil or not.
func TestNothing(t *testing.T) {
	for _, b := range [][]byte{nil, {}, make([]byte, 0, 50)} {
		scans(t, "no bytes", b, nil, nil)
		saves(t, "no bytes", b, api.Rescue{})
		if got, e := salvage.Mend(b); got != nil || e != api.ErrHead {
			t.Errorf("P13.3: Mend of no bytes = %v, %d", got, e)
		}
	}
}
