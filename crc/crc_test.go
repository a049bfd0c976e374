package crc_test

import (
	"bytes"
	"hash/crc32"
	"math"
	"math/rand"
	"slices"
	"testing"

	"hindsight/api"
	"hindsight/crc"
)

const (
	nine  = "123456789"
	check = 3421780262 // the sum of nine
)

// stepOf is a step in the chapter's words.
func stepOf(r uint32) uint32 {
	if r%2 == 1 {
		return r/2 ^ 3988292384
	}
	return r / 2
}

// takeOf takes bytes into r in the chapter's words.
func takeOf(r uint32, b []byte) uint32 {
	for _, c := range b {
		r ^= uint32(c)
		for range 8 {
			r = stepOf(r)
		}
	}
	return r
}

func sumOf(b []byte) uint32 { return ^takeOf(^uint32(0), b) }

// turned is b with these bits turned, one after the other.
func turned(b []byte, bits []int) []byte {
	out := bytes.Clone(b)
	for _, k := range bits {
		out[k/8] ^= 1 << (k % 8)
	}
	return out
}

func someBytes(r *rand.Rand, n int) []byte {
	b := make([]byte, n)
	r.Read(b)
	return b
}

// someBits are bits of a run of n bytes, some of them perhaps twice.
func someBits(r *rand.Rand, n, count int) []int {
	var out []int
	for range count {
		out = append(out, r.Intn(8*n))
	}
	return out
}

// registers are numbers that a register can hold: each single bit, the edges, and some of any size.
func registers(r *rand.Rand) []uint32 {
	out := []uint32{0, 3, 0x7FFFFFFF, 0xFFFFFFFE, 0xFFFFFFFF, 0xEDB88320}
	for k := range 32 {
		out = append(out, 1<<k)
	}
	for range 20 {
		out = append(out, r.Uint32())
	}
	return out
}

func flip(t *testing.T, n int, bits ...int) uint32 {
	t.Helper()
	f, e := crc.Flip(n, bits)
	if e != api.OK {
		t.Fatalf("P2.5: Flip(%d, %v) answers the error %d", n, bits, e)
	}
	return f
}

func combine(t *testing.T, a, b uint32, n int) uint32 {
	t.Helper()
	s, e := crc.Combine(a, b, n)
	if e != api.OK {
		t.Fatalf("P2.4: Combine(%08X, %08X, %d) answers the error %d", a, b, n, e)
	}
	return s
}

func TestTable(t *testing.T) {
	table := crc.Table()
	for place, want := range map[int]uint32{0: 0, 1: 1996959894, 128: 3988292384, 255: 755167117} {
		if table[place] != want {
			t.Errorf("P2.1: Table at %d = %08X, want %08X", place, table[place], want)
		}
	}
	for i, got := range table {
		want := uint32(i)
		for range 8 {
			want = stepOf(want)
		}
		if got != want {
			t.Errorf("P2.1: Table at %d = %08X, want %08X", i, got, want)
		}
	}
}

func TestTableCanBeWrittenOver(t *testing.T) {
	want := crc.Table()
	got := crc.Table()
	for i := range got {
		got[i] = 7
	}
	if crc.Table() != want || crc.Sum([]byte(nine)) != check {
		t.Error("P2.9: the table that was answered is the program's own")
	}
}

func TestSumExamples(t *testing.T) {
	for _, c := range []struct {
		b    []byte
		want uint32
	}{
		{nil, 0}, {[]byte{}, 0}, {[]byte{0}, 3523407757}, {[]byte{97}, 3904355907}, {[]byte(nine), check},
		{[]byte{255, 255, 255, 255}, 0xFFFFFFFF}, {make([]byte, 4), 0x2144DF1C},
	} {
		if got := crc.Sum(c.b); got != c.want {
			t.Errorf("P2.2: Sum(%v) = %d, want %d", c.b, got, c.want)
		}
	}
}

func TestSum(t *testing.T) {
	r := rand.New(rand.NewSource(1))
	for c := range 256 {
		if b := []byte{byte(c)}; crc.Sum(b) != sumOf(b) {
			t.Errorf("P2.2: Sum(%v) = %08X, want %08X", b, crc.Sum(b), sumOf(b))
		}
	}
	for n := range 300 {
		if b := someBytes(r, n); crc.Sum(b) != sumOf(b) {
			t.Errorf("P2.2: Sum(%v) = %08X, want %08X", b, crc.Sum(b), sumOf(b))
		}
	}
	if b := someBytes(r, 1<<20); crc.Sum(b) != crc32.ChecksumIEEE(b) {
		t.Errorf("P2.2: Sum of 2^20 bytes = %08X, want %08X", crc.Sum(b), crc32.ChecksumIEEE(b))
	}
}

func TestUpdateExamples(t *testing.T) {
	for _, c := range []struct {
		sum  uint32
		b    string
		want uint32
	}{
		{0, nine, check}, {0, "", 0}, {3904355907, "", 3904355907}, {7, "", 7}, {0xFFFFFFFF, "", 0xFFFFFFFF},
		{crc.Sum([]byte("1234")), "56789", check},
	} {
		if got := crc.Update(c.sum, []byte(c.b)); got != c.want {
			t.Errorf("P2.3: Update(%d, %q) = %d, want %d", c.sum, c.b, got, c.want)
		}
	}
}

func TestUpdate(t *testing.T) {
	r := rand.New(rand.NewSource(2))
	for _, sum := range registers(r) {
		for n := range 20 {
			b := someBytes(r, n)
			if got, want := crc.Update(sum, b), ^takeOf(^sum, b); got != want {
				t.Fatalf("P2.3: Update(%08X, %v) = %08X, want %08X", sum, b, got, want)
			}
		}
	}
}

// TestCutAnywhere cuts runs at every place: by Update and by Combine the two parts tell the whole.
func TestCutAnywhere(t *testing.T) {
	r := rand.New(rand.NewSource(3))
	for n := range 60 {
		b := someBytes(r, n)
		want := sumOf(b)
		for cut := range n + 1 {
			first, second := b[:cut], b[cut:]
			if got := crc.Update(crc.Sum(first), second); got != want {
				t.Fatalf("P2.3: %v cut at %d = %08X, want %08X", b, cut, got, want)
			}
			if got := combine(t, crc.Sum(first), crc.Sum(second), len(second)); got != want {
				t.Fatalf("P2.4: %v cut at %d = %08X, want %08X", b, cut, got, want)
			}
		}
	}
}

func TestCombineExamples(t *testing.T) {
	one, other := crc.Sum([]byte("1234")), crc.Sum([]byte("56789"))
	for _, c := range []struct {
		a, b uint32
		n    int
		want uint32
		e    api.Errno
	}{
		{one, other, 5, check, api.OK}, {1, 0, 1, 1996959894, api.OK}, {1, 1, 1, 1996959895, api.OK},
		{0, 5, 0, 5, api.OK}, {0, 5, 9, 5, api.OK}, {0, 5, api.MaxFile, 5, api.OK},
		{9, 0, 0, 9, api.OK}, {9, 6, 0, 15, api.OK}, {0, 0, 0, 0, api.OK},
		{one, other, -1, 0, api.ErrCount}, {one, other, api.MaxFile + 1, 0, api.ErrCount},
		{0, 0, -1, 0, api.ErrCount}, {0, 0, math.MaxInt, 0, api.ErrCount}, {0, 0, math.MinInt, 0, api.ErrCount},
		{one, other, 1 << 32, 0, api.ErrCount}, {one, other, -1 << 32, 0, api.ErrCount},
	} {
		if got, e := crc.Combine(c.a, c.b, c.n); got != c.want || e != c.e {
			t.Errorf("P2.4: Combine(%d, %d, %d) = %d, %d, want %d, %d", c.a, c.b, c.n, got, e, c.want, c.e)
		}
	}
}

// TestCombineByTheRule takes the zero bytes one after the other, into any numbers.
func TestCombineByTheRule(t *testing.T) {
	r := rand.New(rand.NewSource(4))
	for _, a := range registers(r) {
		want := a
		for n := range 300 {
			b := r.Uint32()
			if got := combine(t, a, b, n); got != want^b {
				t.Fatalf("P2.4: Combine(%08X, %08X, %d) = %08X, want %08X", a, b, n, got, want^b)
			}
			want = takeOf(want, []byte{0})
		}
	}
}

// TestCombineLong goes to the greatest length. (Update takes zero bytes into a with its bits changed; the same into 0 less.)
func TestCombineLong(t *testing.T) {
	zeros := make([]byte, api.MaxFile)
	for _, n := range []int{1 << 16, 1<<20 - 1, 12345678, 1 << 25, api.MaxFile - 1, api.MaxFile} {
		part := zeros[:n]
		a, b := uint32(0x12345678), uint32(n)
		want := crc32.Update(a, crc32.IEEETable, part) ^ crc32.ChecksumIEEE(part) ^ b
		if got := combine(t, a, b, n); got != want {
			t.Errorf("P2.4: Combine(%08X, %08X, %d) = %08X, want %08X", a, b, n, got, want)
		}
	}
	if crc.Sum(zeros) != crc32.ChecksumIEEE(zeros) {
		t.Error("P2.2: the sum of MaxFile bytes")
	}
}

func TestFlipExamples(t *testing.T) {
	last := 8*api.MaxFile - 1
	for _, c := range []struct {
		n    int
		bits []int
		want uint32
		e    api.Errno
	}{
		{1, []int{0}, 1996959894, api.OK}, {1, []int{7}, 3988292384, api.OK},
		{2, []int{0}, takeOf(1996959894, []byte{0}), api.OK}, {2, []int{8}, 1996959894, api.OK},
		{1, nil, 0, api.OK}, {1, []int{}, 0, api.OK}, {0, nil, 0, api.OK}, {api.MaxFile, nil, 0, api.OK},
		{1, []int{3, 3}, 0, api.OK}, {1, []int{0, 7, 7}, 1996959894, api.OK}, {2, []int{8, 1, 1}, 1996959894, api.OK},
		{api.MaxFile, []int{last}, 3988292384, api.OK}, {api.MaxFile, []int{last - 7}, 1996959894, api.OK},
		{0, []int{0}, 0, api.ErrArg}, {0, []int{-1}, 0, api.ErrArg}, {1, []int{8}, 0, api.ErrArg}, {1, []int{-1}, 0, api.ErrArg},
		{1, []int{0, 8}, 0, api.ErrArg}, {1, []int{8, 0}, 0, api.ErrArg}, {1, []int{0, -1, 0}, 0, api.ErrArg}, {1, []int{8, 8}, 0, api.ErrArg},
		{1, []int{math.MaxInt}, 0, api.ErrArg}, {1, []int{math.MinInt}, 0, api.ErrArg}, {1, []int{1 << 32}, 0, api.ErrArg},
		{api.MaxFile, []int{last + 1}, 0, api.ErrArg}, {api.MaxFile, []int{-1}, 0, api.ErrArg},
		{-1, nil, 0, api.ErrCount}, {-1, []int{-1}, 0, api.ErrCount}, {api.MaxFile + 1, nil, 0, api.ErrCount},
		{api.MaxFile + 1, []int{-1}, 0, api.ErrCount}, {api.MaxFile + 1, []int{0}, 0, api.ErrCount},
		{math.MaxInt, []int{0}, 0, api.ErrCount}, {math.MinInt, []int{0}, 0, api.ErrCount}, {1 << 61, []int{0}, 0, api.ErrCount},
	} {
		if got, e := crc.Flip(c.n, c.bits); got != c.want || e != c.e {
			t.Errorf("P2.5: Flip(%d, %v) = %d, %d, want %d, %d", c.n, c.bits, got, e, c.want, c.e)
		}
	}
}

// TestFlipOfRuns turns bits, in any order and some of them twice, in several runs of each length: the change is one.
func TestFlipOfRuns(t *testing.T) {
	r := rand.New(rand.NewSource(5))
	for n := 1; n < 200; n++ {
		for _, count := range []int{1, 2, 3, 10, 8 * n} {
			bits := someBits(r, n, count)
			got := flip(t, n, bits...)
			for _, b := range [][]byte{make([]byte, n), bytes.Repeat([]byte{255}, n), someBytes(r, n)} {
				if want := sumOf(b) ^ sumOf(turned(b, bits)); got != want {
					t.Fatalf("P2.5: Flip(%d, %v) = %08X, of the run %v %08X", n, bits, got, b, want)
				}
			}
		}
	}
}

func TestFlipLong(t *testing.T) {
	r := rand.New(rand.NewSource(6))
	b := someBytes(r, api.MaxFile)
	sum := crc32.ChecksumIEEE(b)
	for _, count := range []int{1, 2, 50, 20000} {
		bits := someBits(r, len(b), count)
		for _, k := range bits {
			b[k/8] ^= 1 << (k % 8)
		}
		now := crc32.ChecksumIEEE(b)
		if got := flip(t, len(b), bits...); got != sum^now {
			t.Errorf("P2.5: Flip of %d bits of MaxFile bytes = %08X, want %08X", count, got, sum^now)
		}
		sum = now
	}
}

// TestOrderOfBits: the change hangs on which bits are turned, not on where in the list they stand.
func TestOrderOfBits(t *testing.T) {
	r := rand.New(rand.NewSource(7))
	for range 200 {
		bits := someBits(r, 1000, 1+r.Intn(9))
		want := flip(t, 1000, bits...)
		r.Shuffle(len(bits), func(i, j int) { bits[i], bits[j] = bits[j], bits[i] })
		if got := flip(t, 1000, bits...); got != want {
			t.Fatalf("P2.5: Flip(1000, %v) = %08X, in another order %08X", bits, got, want)
		}
	}
}

// TestArgumentsStay looks at what was handed in and at the spare room behind it.
func TestArgumentsStay(t *testing.T) {
	b := []byte("bytes with room behind")
	bits := []int{30, 2, 30, 17, 5, 1, 0, 39}
	wantB, wantBits := bytes.Clone(b), slices.Clone(bits)
	s := crc.New()
	crc.Sum(b[:5])
	crc.Update(9, b[:5])
	s.Write(b[:5])
	crc.Flip(5, bits[:5])
	crc.Flip(2, bits[:5])
	if !bytes.Equal(b, wantB) || !slices.Equal(bits, wantBits) {
		t.Errorf("P2.9: %v became %v, %v became %v", wantB, b, wantBits, bits)
	}
	for k := range b {
		b[k] = 0
	}
	if s.Sum() != sumOf(wantB[:5]) || s.Len() != 5 {
		t.Error("P2.9: a stream has kept what was handed in")
	}
}

// TestSpareRoomIsNotTaken: what lies behind a list's end does not belong to the run.
func TestSpareRoomIsNotTaken(t *testing.T) {
	whole := []byte(nine + "and more")
	part := whole[:len(nine)]
	if crc.Sum(part) != check || crc.Update(0, part) != check {
		t.Error("P2.2: bytes behind the list are taken")
	}
	bits := []int{0, 7}
	if got := flip(t, 1, bits[:1]...); got != 1996959894 {
		t.Errorf("P2.5: bits behind the list are turned: %d", got)
	}
}
