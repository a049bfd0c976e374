package frame_test

import (
	"bytes"
	"math"
	"math/rand"
	"slices"
	"testing"

	"hindsight/api"
	"hindsight/frame"
	"hindsight/wire"
)

func expectHead(t *testing.T, body []byte, want api.Head, fault api.Errno) {
	t.Helper()
	if h, e := frame.DecodeHead(body); h != want || e != fault {
		t.Errorf("P3.6: DecodeHead(%v) = %v, %d, want %v, %d", body, h, e, want, fault)
	}
}

func expectFoot(t *testing.T, body []byte, want api.Foot, fault api.Errno) {
	t.Helper()
	if f, e := frame.DecodeFoot(body); f != want || e != fault {
		t.Errorf("P3.6: DecodeFoot(%v) = %v, %d, want %v, %d", body, f, e, want, fault)
	}
}

func TestHeadExamples(t *testing.T) {
	h := api.Head{Limit: 64, Events: 300, Streams: 2}
	body, e := frame.EncodeHead(h)
	if e != api.OK || !bytes.Equal(body, []byte{1, 64, 172, 2, 2, 0, 0}) {
		t.Errorf("P3.5: EncodeHead = %v, %d", body, e)
	}
	expectHead(t, body, h, api.OK)
	for _, x := range []struct {
		body  []byte
		fault api.Errno
	}{
		{[]byte{1, 63, 0, 0, 0, 0}, api.ErrField},
		{[]byte{2, 64, 0, 0, 0, 0}, api.ErrField},
		{[]byte{1, 64, 172, 2, 2, 0}, api.ErrEnd},
		{[]byte{1, 64, 0, 0, 0, 0, 0}, api.ErrBody},
		{[]byte{1, 192, 0, 0, 0, 0, 0}, api.ErrLong},
		{nil, api.ErrEnd},
		{[]byte{}, api.ErrEnd},
	} {
		expectHead(t, x.body, api.Head{}, x.fault)
	}
}

func TestFootExamples(t *testing.T) {
	f := api.Foot{Frames: 3, Sum: 258}
	body, e := frame.EncodeFoot(f)
	if e != api.OK || !bytes.Equal(body, []byte{3, 2, 1, 0, 0}) {
		t.Errorf("P3.5: EncodeFoot = %v, %d", body, e)
	}
	expectFoot(t, body, f, api.OK)
	expectFoot(t, []byte{3, 2, 1, 0}, api.Foot{}, api.ErrEnd)
	expectFoot(t, []byte{3, 2, 1, 0, 0, 0}, api.Foot{}, api.ErrBody)
}

// ranges are the fields of a head in their order: the least and the greatest number of each.
var ranges = [5][2]int{{64, 1048576}, {0, 1048576}, {0, 65536}, {0, 65536}, {0, 262144}}

func headOf(x [5]int) api.Head {
	return api.Head{Limit: x[0], Events: x[1], Streams: x[2], Strings: x[3], Nodes: x[4]}
}

// headBody is the body of five numbers, whether they may be or not.
func headBody(x [5]uint64) []byte {
	body := []byte{1}
	for _, n := range x {
		body = append(body, wire.Uvarint(n)...)
	}
	return body
}

func someHead(r *rand.Rand) [5]int {
	var x [5]int
	for k, limits := range ranges {
		x[k] = limits[0] + r.Intn(limits[1]-limits[0]+1)>>r.Intn(21)
	}
	return x
}

func TestHeadThereAndBack(t *testing.T) {
	r := rand.New(rand.NewSource(21))
	heads := [][5]int{{64, 0, 0, 0, 0}, {1048576, 1048576, 65536, 65536, 262144}}
	for range 2000 {
		heads = append(heads, someHead(r))
	}
	for _, x := range heads {
		var numbers [5]uint64
		for k := range x {
			numbers[k] = uint64(x[k])
		}
		body, e := frame.EncodeHead(headOf(x))
		if e != api.OK || !bytes.Equal(body, headBody(numbers)) {
			t.Errorf("P3.5: EncodeHead(%v) = %v, %d", x, body, e)
		}
		expectHead(t, body, headOf(x), api.OK)
		for cut := range body {
			expectHead(t, body[:cut], api.Head{}, api.ErrEnd)
		}
		for _, more := range []byte{0, 1, 128, 255} {
			expectHead(t, append(body[:len(body):len(body)], more), api.Head{}, api.ErrBody)
		}
	}
}

// TestHeadEdges puts each field to its edges and beyond, the others at the least and at the greatest that may be.
func TestHeadEdges(t *testing.T) {
	for side := range 2 {
		var others [5]int
		for k := range others {
			others[k] = ranges[k][side]
		}
		for k, limits := range ranges {
			for _, n := range []int{math.MinInt, math.MinInt + 64, -1 << 32, -1, 0, 1, 63, 64, 65, 65535, 65536, 65537, 1<<18 - 1, 1 << 18, 1<<18 + 1, 1<<20 - 1, 1 << 20, 1<<20 + 1, 1 << 32, 1<<32 + 64, math.MaxInt} {
				x := others
				x[k] = n
				want := api.ErrField
				if n >= limits[0] && n <= limits[1] {
					want = api.OK
				}
				body, e := frame.EncodeHead(headOf(x))
				if e != want || e != api.OK && len(body) != 0 {
					t.Errorf("P3.5: EncodeHead(%v) = %v, %d, want %d", x, body, e, want)
				}
			}
		}
	}
}

// TestHeadTooGreat reads numbers that may not be, those among them that an int can't hold; what comes behind is not looked at.
func TestHeadTooGreat(t *testing.T) {
	for k, limits := range ranges {
		bad := []uint64{uint64(limits[1]) + 1, 1 << 32, 1<<32 + 64, math.MaxInt64, 1 << 63, 1<<63 + 64, math.MaxUint64}
		if limits[0] > 0 {
			bad = append(bad, 0, uint64(limits[0])-1)
		}
		for _, n := range bad {
			ahead := []byte{1}
			for j := range k {
				ahead = append(ahead, wire.Uvarint(uint64(ranges[j][1]))...)
			}
			body := append(ahead, wire.Uvarint(n)...)
			for _, more := range [][]byte{nil, {128}, {128, 0}, {0, 0, 0, 0}, bytes.Repeat([]byte{255}, 12), make([]byte, 9)} {
				expectHead(t, slices.Concat(body, more), api.Head{}, api.ErrField)
			}
		}
	}
}

// faulty are begins of numbers that can't be read, with the error that each has.
var faulty = []struct {
	b     []byte
	fault api.Errno
}{
	{nil, api.ErrEnd},
	{[]byte{128}, api.ErrEnd},
	{[]byte{255, 255}, api.ErrEnd},
	{[]byte{192, 0}, api.ErrLong},
	{[]byte{192, 128, 0, 255}, api.ErrLong},
	{[]byte{255, 255, 255, 255, 255, 255, 255, 255, 255, 2}, api.ErrOver},
	{[]byte{255, 255, 255, 255, 255, 255, 255, 255, 255, 128, 0}, api.ErrOver},
}

func TestHeadUnreadable(t *testing.T) {
	for k := range ranges {
		for _, x := range faulty {
			ahead := []byte{1}
			for j := range k {
				ahead = append(ahead, wire.Uvarint(uint64(ranges[j][0]))...)
			}
			expectHead(t, append(ahead, x.b...), api.Head{}, x.fault)
		}
	}
	// The first byte goes ahead of all that is wrong behind it.
	for form := range 256 {
		for _, x := range faulty {
			want := api.ErrField
			if form == 1 {
				want = x.fault
			}
			expectHead(t, append([]byte{byte(form)}, x.b...), api.Head{}, want)
		}
	}
}

// headDecoded reads a head in the chapter's words.
func headDecoded(body []byte) (api.Head, api.Errno) {
	if len(body) == 0 {
		return api.Head{}, api.ErrEnd
	}
	if body[0] != 1 {
		return api.Head{}, api.ErrField
	}
	var x [5]int
	at := 1
	for k, limits := range ranges {
		n, next, e := wire.ReadUvarint(body, at)
		if e != api.OK {
			return api.Head{}, e
		}
		if n < uint64(limits[0]) || n > uint64(limits[1]) {
			return api.Head{}, api.ErrField
		}
		x[k], at = int(n), next
	}
	if at < len(body) {
		return api.Head{}, api.ErrBody
	}
	return headOf(x), api.OK
}

// bodies are rows of telling bytes: many are nearly a head's or a foot's body.
func bodies(r *rand.Rand) []byte {
	signs := []byte{0, 1, 1, 2, 63, 64, 64, 65, 127, 128, 129, 192, 255}
	out := []byte{1}
	for range r.Intn(9) {
		out = append(out, signs[r.Intn(len(signs))])
	}
	if r.Intn(20) == 0 {
		out[0] = byte(r.Intn(3))
	}
	return out
}

// footDecoded reads a foot in the chapter's words.
func footDecoded(body []byte) (api.Foot, api.Errno) {
	n, at, e := wire.ReadUvarint(body, 0)
	switch {
	case e != api.OK:
		return api.Foot{}, e
	case n > 4294967295:
		return api.Foot{}, api.ErrField
	case len(body)-at < 4:
		return api.Foot{}, api.ErrEnd
	case len(body)-at > 4:
		return api.Foot{}, api.ErrBody
	}
	sum := uint32(body[at]) + uint32(body[at+1])*256 + uint32(body[at+2])*65536 + uint32(body[at+3])*16777216
	return api.Foot{Frames: int(n), Sum: sum}, api.OK
}

// expectBodies reads bodies of all sorts, and writes again what was read.
func expectBodies[T comparable](t *testing.T, read, words func([]byte) (T, api.Errno), write func(T) ([]byte, api.Errno)) {
	t.Helper()
	r := rand.New(rand.NewSource(22))
	good := 0
	for range 200000 {
		body := bodies(r)
		got, e := read(body)
		if want, fault := words(body); got != want || e != fault {
			t.Fatalf("P3.6: of %v is read %v, %d, want %v, %d", body, got, e, want, fault)
		}
		if e != api.OK {
			continue
		}
		good++
		if back, e := write(got); e != api.OK || !bytes.Equal(back, body) {
			t.Fatalf("P3.7: what was read of %v is written as %v, %d", body, back, e)
		}
	}
	if good < 1000 {
		t.Errorf("only %d bodies were good: the test looks at too few", good)
	}
}

func TestHeadBodies(t *testing.T) { expectBodies(t, frame.DecodeHead, headDecoded, frame.EncodeHead) }

func TestFootBodies(t *testing.T) { expectBodies(t, frame.DecodeFoot, footDecoded, frame.EncodeFoot) }

func TestFootThereAndBack(t *testing.T) {
	r := rand.New(rand.NewSource(24))
	feet := []api.Foot{{}, {Frames: 1<<32 - 1, Sum: 1<<32 - 1}, {Frames: 127, Sum: 1}, {Frames: 128, Sum: 1 << 31}, {Frames: 1 << 31, Sum: 0x01020304}}
	for range 2000 {
		feet = append(feet, api.Foot{Frames: int(r.Uint32() >> r.Intn(32)), Sum: r.Uint32() >> r.Intn(32)})
	}
	for _, f := range feet {
		body, e := frame.EncodeFoot(f)
		want := slices.Concat(wire.Uvarint(uint64(f.Frames)), lowFirst(uint64(f.Sum), 4))
		if e != api.OK || !bytes.Equal(body, want) {
			t.Errorf("P3.5: EncodeFoot(%v) = %v, %d, want %v", f, body, e, want)
		}
		expectFoot(t, body, f, api.OK)
		for cut := range body {
			expectFoot(t, body[:cut], api.Foot{}, api.ErrEnd)
		}
		for _, more := range []byte{0, 1, 128, 255} {
			expectFoot(t, append(body[:len(body):len(body)], more), api.Foot{}, api.ErrBody)
		}
	}
}

func TestFootWrong(t *testing.T) {
	for _, n := range []int{-1, -2, math.MinInt, math.MinInt + 3, 1 << 32, 1<<32 + 3, math.MaxInt} {
		if body, e := frame.EncodeFoot(api.Foot{Frames: n, Sum: 258}); e != api.ErrField || len(body) != 0 {
			t.Errorf("P3.5: EncodeFoot of %d frames = %v, %d", n, body, e)
		}
	}
	for _, n := range []uint64{1 << 32, 1<<32 + 3, 1<<63 - 1, 1 << 63, 1<<63 + 3, math.MaxUint64} {
		for _, more := range [][]byte{nil, {1}, {2, 1, 0, 0}, {2, 1, 0, 0, 0}} {
			expectFoot(t, append(wire.Uvarint(n), more...), api.Foot{}, api.ErrField)
		}
	}
	for _, x := range faulty {
		expectFoot(t, x.b, api.Foot{}, x.fault)
	}
}
