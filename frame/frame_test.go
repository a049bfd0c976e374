package frame_test

import (
	"bytes"
	"hash/crc32"
	"math"
	"math/rand"
	"reflect"
	"slices"
	"testing"

	"hindsight/api"
	"hindsight/frame"
)

// lowFirst writes a number in so many bytes, the lowest first, by division.
func lowFirst(x uint64, size int) []byte {
	var out []byte
	for range size {
		out = append(out, byte(x%256))
		x /= 256
	}
	return out
}

// fieldsOf are the bytes 0 to 11 of a frame, of whatever numbers.
func fieldsOf(kind, stream, ord, n uint64) []byte {
	return slices.Concat([]byte{167}, lowFirst(kind, 1), lowFirst(stream, 2), lowFirst(ord, 4), lowFirst(n, 4))
}

// sumOf is the check sum as the library works it out, in its four bytes.
func sumOf(b ...[]byte) []byte {
	return lowFirst(uint64(crc32.ChecksumIEEE(slices.Concat(b...))), 4)
}

// topOf is a top with a right check sum.
func topOf(kind, stream, ord, n uint64) []byte {
	fields := fieldsOf(kind, stream, ord, n)
	return slices.Concat(fields, sumOf(fields))
}

// bytesOf are the bytes of a frame as the chapter's table lays them.
func bytesOf(f api.Frame) []byte {
	fields := fieldsOf(uint64(f.Kind), uint64(f.Stream), uint64(f.Ord), uint64(len(f.Body)))
	return slices.Concat(fields, sumOf(fields), f.Body, sumOf(fields, f.Body))
}

func encode(t *testing.T, f api.Frame) []byte {
	t.Helper()
	b, e := frame.Encode(f)
	if e != api.OK {
		t.Fatalf("P3.1: Encode of kind %d, stream %d, ord %d, %d bytes: %d", f.Kind, f.Stream, f.Ord, len(f.Body), e)
	}
	return b
}

func join(t *testing.T, fs ...api.Frame) []byte {
	t.Helper()
	b, e := frame.Join(fs)
	if e != api.OK {
		t.Fatalf("P3.4: Join of %d frames: %d", len(fs), e)
	}
	return b
}

func same(a, b api.Frame) bool {
	return a.Kind == b.Kind && a.Stream == b.Stream && a.Ord == b.Ord && bytes.Equal(a.Body, b.Body)
}

func empty(f api.Frame) bool { return same(f, api.Frame{}) }

func expectDecode(t *testing.T, b []byte, at int, want api.Errno) {
	t.Helper()
	f, to, e := frame.Decode(b, at)
	if e != want || !empty(f) || to != 0 {
		t.Errorf("P3.2: Decode at %d of %d bytes: %v, %d, %d, want the error %d alone", at, len(b), f, to, e, want)
	}
}

func someBytes(r *rand.Rand, n int) []byte {
	b := make([]byte, n)
	r.Read(b)
	return b
}

func someFrame(r *rand.Rand, longest int) api.Frame {
	return api.Frame{
		Kind:   1 + r.Intn(255),
		Stream: r.Intn(api.MaxG),
		Ord:    int(r.Uint32()),
		Body:   someBytes(r, r.Intn(longest+1)),
	}
}

// frames are those at the edges of each field and of the body, and some between.
func frames() []api.Frame {
	r := rand.New(rand.NewSource(1))
	var out []api.Frame
	for _, kind := range []int{1, 2, 127, 128, 255} {
		for _, stream := range []int{0, 1, 255, 256, api.MaxG - 1} {
			for _, ord := range []int{0, 1, 255, 256, 1 << 16, 1 << 24, 1<<31 - 1, 1 << 31, 1<<32 - 1} {
				out = append(out, api.Frame{Kind: kind, Stream: stream, Ord: ord, Body: someBytes(r, r.Intn(4))})
			}
		}
	}
	for _, n := range []int{0, 1, 255, 256, 65535, 65536, api.MaxBody - 1, api.MaxBody} {
		f := someFrame(r, 0)
		f.Body = someBytes(r, n)
		out = append(out, f)
	}
	for range 500 {
		out = append(out, someFrame(r, 300))
	}
	return out
}

var example = api.Frame{Kind: 5, Stream: 0, Ord: 3, Body: []byte{9}}

func TestEncodeExample(t *testing.T) {
	b := encode(t, example)
	if len(b) != 21 || !bytes.Equal(b[:12], []byte{167, 5, 0, 0, 3, 0, 0, 0, 1, 0, 0, 0}) || b[16] != 9 {
		t.Fatalf("P3.1: Encode = %v", b)
	}
	if !bytes.Equal(b[12:16], sumOf(b[:12])) || !bytes.Equal(b[17:], sumOf(b[:12], b[16:17])) {
		t.Errorf("P3.1: Encode = %v: a check sum is another one", b)
	}
	f, to, e := frame.Decode(b, 0)
	if e != api.OK || to != 21 || !same(f, example) {
		t.Errorf("P3.2: Decode = %v, %d, %d", f, to, e)
	}
	expectDecode(t, b, 1, api.ErrMagic)
	expectDecode(t, b, 21, api.ErrEnd)
	for _, at := range []int{22, -1, 23, -21, math.MaxInt, math.MinInt} {
		expectDecode(t, b, at, api.ErrArg)
	}
}

func TestEncode(t *testing.T) {
	for _, f := range frames() {
		if b := encode(t, f); !bytes.Equal(b, bytesOf(f)) {
			t.Errorf("P3.1: Encode of kind %d, stream %d, ord %d, %d bytes is another row of bytes", f.Kind, f.Stream, f.Ord, len(f.Body))
		}
	}
	none, other := encode(t, api.Frame{Kind: 1}), encode(t, api.Frame{Kind: 1, Body: []byte{}})
	if len(none) != 20 || !bytes.Equal(none, other) {
		t.Errorf("P0.5: Encode without a body: %v, %v", none, other)
	}
}

// wrong are frames that may not be, with what is to be answered for them.
func wrong() []struct {
	f api.Frame
	e api.Errno
} {
	over := make([]byte, api.MaxBody+1)
	return []struct {
		f api.Frame
		e api.Errno
	}{
		{api.Frame{}, api.ErrField},
		{api.Frame{Kind: 0, Stream: 1, Ord: 1}, api.ErrField},
		{api.Frame{Kind: 256}, api.ErrField},
		{api.Frame{Kind: -1}, api.ErrField},
		{api.Frame{Kind: 257}, api.ErrField},
		{api.Frame{Kind: math.MaxInt}, api.ErrField},
		{api.Frame{Kind: math.MinInt + 1}, api.ErrField},
		{api.Frame{Kind: 1, Stream: 65536}, api.ErrField},
		{api.Frame{Kind: 1, Stream: -1}, api.ErrField},
		{api.Frame{Kind: 1, Stream: math.MaxInt}, api.ErrField},
		{api.Frame{Kind: 1, Stream: math.MinInt}, api.ErrField},
		{api.Frame{Kind: 1, Ord: 4294967296}, api.ErrField},
		{api.Frame{Kind: 1, Ord: -1}, api.ErrField},
		{api.Frame{Kind: 1, Ord: math.MaxInt}, api.ErrField},
		{api.Frame{Kind: 1, Ord: math.MinInt}, api.ErrField},
		{api.Frame{Kind: 1, Body: over}, api.ErrBody},
		{api.Frame{Kind: 255, Stream: 65535, Ord: 1<<32 - 1, Body: over}, api.ErrBody},
		{api.Frame{Kind: 0, Body: over}, api.ErrField},
		{api.Frame{Kind: 1, Stream: -1, Body: over}, api.ErrField},
		{api.Frame{Kind: 1, Ord: 4294967296, Body: over}, api.ErrField},
	}
}

func TestEncodeWrong(t *testing.T) {
	for i, x := range wrong() {
		if b, e := frame.Encode(x.f); e != x.e || len(b) != 0 {
			t.Errorf("P3.1: Encode %d: %d bytes, %d, want %d", i, len(b), e, x.e)
		}
	}
}

func TestDecodeExamples(t *testing.T) {
	b := encode(t, example)
	expectDecode(t, b[:15], 0, api.ErrEnd)
	expectDecode(t, b[:20], 0, api.ErrEnd)
	for _, bit := range []int{96, 64, 130} {
		expectDecode(t, turned(b, bit), 0, api.ErrSum)
	}
	expectDecode(t, topOf(0, 0, 0, 0), 0, api.ErrField)
	expectDecode(t, topOf(1, 0, 0, 2097153), 0, api.ErrBody)
}

// TestDecodeOrder lays faults one over the other: the one that the chapter names first is told.
func TestDecodeOrder(t *testing.T) {
	badSum := func(top []byte) []byte { return turned(top, 100) }
	whole := bytesOf(api.Frame{Kind: 1, Body: []byte{1, 2}})
	for _, x := range []struct {
		name string
		b    []byte
		at   int
		e    api.Errno
	}{
		{"below the begin of nothing", nil, -1, api.ErrArg},
		{"behind the end of nothing", nil, 1, api.ErrArg},
		{"below the begin", []byte{1}, -1, api.ErrArg},
		{"nothing", nil, 0, api.ErrEnd},
		{"at the end", []byte{1}, 1, api.ErrEnd},
		{"one other byte", []byte{166}, 0, api.ErrMagic},
		{"a short other row", []byte{168, 1, 2}, 0, api.ErrMagic},
		{"another first byte, all else wrong too", append([]byte{0}, badSum(topOf(0, 0, 0, 1<<32-1))[1:]...), 0, api.ErrMagic},
		{"one byte", []byte{167}, 0, api.ErrEnd},
		{"a short top with the kind 0", topOf(0, 0, 0, 1<<32-1)[:15], 0, api.ErrEnd},
		{"a wrong sum, the kind 0, too long", badSum(topOf(0, 0, 0, 1<<32-1)), 0, api.ErrSum},
		{"a wrong sum, too long", badSum(topOf(1, 0, 0, 2097153)), 0, api.ErrSum},
		{"a wrong sum, cut", badSum(topOf(1, 0, 0, 5)), 0, api.ErrSum},
		{"a sum of zeros", slices.Concat(fieldsOf(1, 0, 0, 0), make([]byte, 8)), 0, api.ErrSum},
		{"the kind 0, too long, cut", topOf(0, 0, 0, 2097153), 0, api.ErrField},
		{"the kind 0, cut", topOf(0, 0, 0, 5), 0, api.ErrField},
		{"the kind 0, whole", bytesOf(api.Frame{}), 0, api.ErrField},
		{"too long, cut", topOf(1, 0, 0, 2097153), 0, api.ErrBody},
		{"far too long, cut", topOf(1, 0, 0, 1<<31), 0, api.ErrBody},
		{"longest of all, cut", topOf(255, 65535, 1<<32-1, 1<<32-1), 0, api.ErrBody},
		{"longest that may be, cut", topOf(1, 0, 0, 2097152), 0, api.ErrEnd},
		{"no body, cut", topOf(1, 0, 0, 0), 0, api.ErrEnd},
		{"one byte short, the sum wrong", turned(whole, 136)[:len(whole)-1], 0, api.ErrEnd},
		{"the frame's sum", turned(whole, 8*len(whole)-1), 0, api.ErrSum},
		{"the frame's first sum bit", turned(whole, 8*len(whole)-32), 0, api.ErrSum},
	} {
		t.Run(x.name, func(t *testing.T) {
			expectDecode(t, x.b, x.at, x.e)
			if x.at != 0 {
				return
			}
			expectDecode(t, append([]byte{167, 9, 9}, x.b...), 3, x.e)
		})
	}
	tooLong := append(topOf(1, 0, 0, 2097153), make([]byte, 2097157)...)
	expectDecode(t, tooLong, 0, api.ErrBody)
}

// TestSumOfTopIsNotInTheFrames: a frame whose sum is taken over the top's sum too is none.
func TestSumOfTopIsNotInTheFrames(t *testing.T) {
	top, body := topOf(1, 0, 0, 3), []byte{1, 2, 3}
	expectDecode(t, slices.Concat(top, body, sumOf(top, body)), 0, api.ErrSum)
	expectDecode(t, slices.Concat(top, body, sumOf(body)), 0, api.ErrSum)
}

// decoded answers what the chapter's words say of Decode, by the words' order.
func decoded(b []byte, at int) (api.Frame, int, api.Errno) {
	if at < 0 || at > len(b) {
		return api.Frame{}, 0, api.ErrArg
	}
	b = b[at:]
	number := func(from, size int) uint64 {
		x := uint64(0)
		for k := range size {
			x = x*256 + uint64(b[from+size-1-k])
		}
		return x
	}
	if len(b) == 0 {
		return api.Frame{}, 0, api.ErrEnd
	}
	if b[0] != 167 {
		return api.Frame{}, 0, api.ErrMagic
	}
	if len(b) < 16 {
		return api.Frame{}, 0, api.ErrEnd
	}
	if !bytes.Equal(sumOf(b[:12]), b[12:16]) {
		return api.Frame{}, 0, api.ErrSum
	}
	if b[1] == 0 {
		return api.Frame{}, 0, api.ErrField
	}
	n := int(number(8, 4))
	if n > 2097152 {
		return api.Frame{}, 0, api.ErrBody
	}
	if len(b) < 20+n {
		return api.Frame{}, 0, api.ErrEnd
	}
	if !bytes.Equal(sumOf(b[:12], b[16:16+n]), b[16+n:20+n]) {
		return api.Frame{}, 0, api.ErrSum
	}
	f := api.Frame{Kind: int(b[1]), Stream: int(number(2, 2)), Ord: int(number(4, 4)), Body: b[16 : 16+n]}
	return f, at + 20 + n, api.OK
}

// somewhatDamaged are rows of bytes that look like frames: some are, some not; of some only the sums are right.
func somewhatDamaged(r *rand.Rand) []byte {
	var b []byte
	for range 1 + r.Intn(4) {
		f := someFrame(r, 6)
		one := bytesOf(f)
		switch r.Intn(8) {
		case 0:
			one = turned(one, r.Intn(8*len(one)))
		case 1:
			one = one[:r.Intn(len(one))]
		case 2:
			n := uint64(r.Intn(9))
			one = slices.Concat(topOf(uint64(r.Intn(2)), 0, uint64(r.Uint32()), n), f.Body, one[len(one)-4:])
		case 3:
			one[0] = byte(r.Intn(256))
		case 4:
			one = topOf(1, 0, 0, uint64(r.Uint32()))
		}
		b = append(b, one...)
	}
	return b
}

func TestDecode(t *testing.T) {
	r := rand.New(rand.NewSource(2))
	for range 3000 {
		b := somewhatDamaged(r)
		for at := -1; at <= len(b)+1; at++ {
			f, to, e := frame.Decode(b, at)
			wantF, wantTo, wantE := decoded(b, at)
			if !same(f, wantF) || to != wantTo || e != wantE {
				t.Fatalf("P3.2: Decode(%v, %d) = %v, %d, %d, want %v, %d, %d", b, at, f, to, e, wantF, wantTo, wantE)
			}
			if e != api.OK {
				continue
			}
			if back := encode(t, f); !bytes.Equal(back, b[at:to]) {
				t.Fatalf("P3.7: Encode of what was read of %v at %d is %v", b, at, back)
			}
		}
	}
}

// TestThereAndBack: what was written is read again, whatever stands behind it and ahead of it.
func TestThereAndBack(t *testing.T) {
	r := rand.New(rand.NewSource(3))
	for _, f := range frames() {
		b := encode(t, f)
		for _, behind := range [][]byte{nil, {0}, {167}, b[:min(30, len(b))], someBytes(r, 25)} {
			got, to, e := frame.Decode(slices.Concat(b, behind), 0)
			if e != api.OK || to != len(b) || !same(got, f) {
				t.Fatalf("P3.7: Decode of Encode of kind %d, stream %d, ord %d, %d bytes: %d, %d", f.Kind, f.Stream, f.Ord, len(f.Body), to, e)
			}
		}
		got, to, e := frame.Decode(append([]byte{167, 1, 0}, b...), 3)
		if e != api.OK || to != len(b)+3 || !same(got, f) {
			t.Fatalf("P3.2: Decode at 3 of kind %d, %d bytes: %d, %d", f.Kind, len(f.Body), to, e)
		}
	}
}

func TestShorterBeginnings(t *testing.T) {
	r := rand.New(rand.NewSource(4))
	for _, n := range []int{0, 1, 2, 300, api.MaxBody} {
		b := encode(t, api.Frame{Kind: 4, Stream: 7, Ord: 8, Body: someBytes(r, n)})
		for cut := range len(b) {
			if cut > 400 && cut < len(b)-400 {
				continue
			}
			if f, to, e := frame.Decode(b[:cut], 0); e != api.ErrEnd || to != 0 || !empty(f) {
				t.Fatalf("P3.7: Decode of %d bytes of %d: %v, %d, %d", cut, len(b), f, to, e)
			}
		}
	}
}

func expectSplit(t *testing.T, b []byte, want []api.Frame, place int, fault api.Errno) {
	t.Helper()
	fs, at, e := frame.Split(b)
	if !slices.EqualFunc(fs, want, same) || at != place || e != fault {
		t.Errorf("P3.3: Split of %d bytes: %d frames, %d, %d, want %d, %d, %d", len(b), len(fs), at, e, len(want), place, fault)
	}
}

func TestSplitExamples(t *testing.T) {
	both := []api.Frame{example, example}
	b := join(t, both...)
	expectSplit(t, b, both, 42, api.OK)
	expectSplit(t, append(bytes.Clone(b), 0), both, 42, api.ErrMagic)
	expectSplit(t, append(bytes.Clone(b), 167), both, 42, api.ErrEnd)
	expectSplit(t, nil, nil, 0, api.OK)
	expectSplit(t, []byte{}, nil, 0, api.OK)
	expectSplit(t, b[1:], nil, 0, api.ErrMagic)
	expectSplit(t, []byte{167}, nil, 0, api.ErrEnd)
}

// TestSplitFaults lays each fault behind frames, with good frames behind it: those are not told.
func TestSplitFaults(t *testing.T) {
	ahead := []api.Frame{example, {Kind: 1}, {Kind: 255, Stream: 65535, Ord: 1<<32 - 1, Body: []byte("body")}}
	b := join(t, ahead...)
	good := bytesOf(example)
	for _, x := range []struct {
		bad   []byte
		fault api.Errno
	}{
		{[]byte{0}, api.ErrMagic},
		{turned(good, 100), api.ErrSum},
		{turned(good, 130), api.ErrSum},
		{topOf(0, 0, 0, 0), api.ErrField},
		{topOf(1, 0, 0, 2097153), api.ErrBody},
		{topOf(1, 0, 0, 100), api.ErrEnd},
	} {
		expectSplit(t, slices.Concat(b, x.bad), ahead, len(b), x.fault)
		expectSplit(t, slices.Concat(b, x.bad, good, good), ahead, len(b), x.fault)
		expectSplit(t, slices.Concat(x.bad, good, good), nil, 0, x.fault)
	}
}

// TestSplit holds Split against Decode, asked from place to place.
func TestSplit(t *testing.T) {
	r := rand.New(rand.NewSource(5))
	for range 5000 {
		b := somewhatDamaged(r)
		var want []api.Frame
		at, fault := 0, api.OK
		for at < len(b) {
			f, next, e := decoded(b, at)
			if e != api.OK {
				fault = e
				break
			}
			want, at = append(want, f), next
		}
		expectSplit(t, b, want, at, fault)
	}
}

func TestJoin(t *testing.T) {
	r := rand.New(rand.NewSource(6))
	for range 300 {
		var fs []api.Frame
		var want []byte
		for range r.Intn(6) {
			fs = append(fs, someFrame(r, 40))
			want = append(want, bytesOf(fs[len(fs)-1])...)
		}
		b := join(t, fs...)
		if !bytes.Equal(b, want) {
			t.Fatalf("P3.4: Join of %v = %v, want %v", fs, b, want)
		}
		expectSplit(t, b, fs, len(b), api.OK)
	}
	for _, none := range [][]api.Frame{nil, {}} {
		if b, e := frame.Join(none); len(b) != 0 || e != api.OK {
			t.Errorf("P3.4: Join of nothing: %v, %d", b, e)
		}
	}
}

func TestJoinWrong(t *testing.T) {
	for i, x := range wrong() {
		for _, fs := range [][]api.Frame{{x.f}, {example, x.f}, {x.f, example}, {example, x.f, {Kind: 256, Body: make([]byte, api.MaxBody+1)}}} {
			if b, e := frame.Join(fs); e != x.e || len(b) != 0 {
				t.Errorf("P3.4: Join with the wrong frame %d: %d bytes, %d, want %d", i, len(b), e, x.e)
			}
		}
	}
	tooLong := api.Frame{Kind: 1, Body: make([]byte, api.MaxBody+1)}
	if b, e := frame.Join([]api.Frame{tooLong, {}}); e != api.ErrBody || len(b) != 0 {
		t.Errorf("P3.4: Join of two wrong frames: %d bytes, %d, want the first one's error", len(b), e)
	}
}

func TestJoinLarge(t *testing.T) {
	body := someBytes(rand.New(rand.NewSource(7)), api.MaxBody)
	full := slices.Repeat([]api.Frame{{Kind: 4, Body: body}}, 31)
	left := api.MaxFile - 31*(20+api.MaxBody) - 20
	fits := append(full[:31:31], api.Frame{Kind: 4, Body: body[:left]})
	b := join(t, fits...)
	if len(b) != api.MaxFile {
		t.Fatalf("P3.4: Join of MaxFile bytes: %d", len(b))
	}
	expectSplit(t, b, fits, api.MaxFile, api.OK)
	over := append(full[:31:31], api.Frame{Kind: 4, Body: body[:left+1]})
	for _, fs := range [][]api.Frame{over, append(fits[:32:32], api.Frame{Kind: 1}), slices.Repeat(full[:1], 100000)} {
		if b, e := frame.Join(fs); e != api.ErrLarge || len(b) != 0 {
			t.Errorf("P3.4: Join of more than MaxFile bytes, %d frames: %d bytes, %d", len(fs), len(b), e)
		}
		for want, bad := range map[api.Errno]api.Frame{api.ErrField: {Kind: 256}, api.ErrBody: {Kind: 1, Body: make([]byte, api.MaxBody+1)}} {
			if b, e := frame.Join(append(slices.Clone(fs), bad)); e != want || len(b) != 0 {
				t.Errorf("P3.4: Join of more than MaxFile bytes and a wrong frame: %d bytes, %d, want %d", len(b), e, want)
			}
		}
	}
}

// TestSplitBeyondMaxFile: no limit is named for Split.
func TestSplitBeyondMaxFile(t *testing.T) {
	one := bytesOf(api.Frame{Kind: 4, Body: make([]byte, api.MaxBody)})
	b := bytes.Repeat(one, 33)
	fs, at, e := frame.Split(b)
	if len(fs) != 33 || at != len(b) || e != api.OK {
		t.Errorf("P3.3: Split of %d bytes: %d frames, %d, %d", len(b), len(fs), at, e)
	}
}

// TestSameAgain: an answer hangs on the arguments alone.
func TestSameAgain(t *testing.T) {
	r := rand.New(rand.NewSource(8))
	for range 100 {
		b := somewhatDamaged(r)
		first, at, e := frame.Split(b)
		frame.Split(someBytes(r, 30))
		again, at2, e2 := frame.Split(b)
		if at != at2 || e != e2 || !reflect.DeepEqual(first, again) {
			t.Fatalf("P0.3: Split of %v is not the same twice", b)
		}
	}
}
