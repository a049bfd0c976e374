package wire_test

import (
	"bytes"
	"math"
	"math/big"
	"math/rand"
	"testing"

	"hindsight/api"
	"hindsight/samples"
	"hindsight/wire"
)

const (
	top  = uint64(math.MaxUint64)
	half = uint64(1) << 63
)

// numbers are the small ones, those around each power of two, and some of any size.
func numbers() []uint64 {
	var out []uint64
	for x := range uint64(20000) {
		out = append(out, x, top-x)
	}
	for k := range 64 {
		p := uint64(1) << k
		out = append(out, p-2, p-1, p, p+1, top-p, top-p+1)
	}
	r := rand.New(rand.NewSource(1))
	for range 20000 {
		out = append(out, r.Uint64()>>r.Intn(64))
	}
	return out
}

// groupsOf writes x as the chapter's words say it: digits to the base 128, by division.
func groupsOf(x uint64) []byte {
	out := []byte{byte(x % 128)}
	for x /= 128; x > 0; x /= 128 {
		out[len(out)-1] += 128
		out = append(out, byte(x%128))
	}
	return out
}

// zigzagOf works the zigzag out in numbers that have no end.
func zigzagOf(n int64) uint64 {
	z := new(big.Int).Lsh(big.NewInt(n), 1)
	if n < 0 {
		z.Neg(z).Sub(z, big.NewInt(1))
	}
	return z.Uint64()
}

// run is a list of count bytes c with others behind it.
func run(c byte, count int, behind ...byte) []byte {
	return append(bytes.Repeat([]byte{c}, count), behind...)
}

// lists are all lists of up to four telling bytes, and long ones around the tenth byte.
func lists() [][]byte {
	signs := []byte{0, 1, 2, 127, 128, 129, 255}
	out := [][]byte{nil}
	for from, length := 0, 0; length < 4; length++ {
		to := len(out)
		for ; from < to; from++ {
			for _, c := range signs {
				out = append(out, append(bytes.Clone(out[from]), c))
			}
		}
	}
	short := out
	for _, high := range []byte{128, 200, 255} {
		for n := 7; n <= 10; n++ {
			for _, tail := range short[:57] {
				out = append(out, run(high, n, tail...))
			}
		}
	}
	return out
}

// readByRule goes through the list of P1.2, word by word.
func readByRule(b []byte, at int) (uint64, int, api.Errno) {
	if at < 0 || at > len(b) {
		return 0, 0, api.ErrArg
	}
	x := new(big.Int)
	for k := 0; ; k++ {
		if at+k == len(b) {
			return 0, 0, api.ErrEnd
		}
		c := b[at+k]
		if k == 9 && c > 1 {
			return 0, 0, api.ErrOver
		}
		x.Add(x, new(big.Int).Lsh(big.NewInt(int64(c%128)), uint(7*k)))
		if c < 128 {
			if k != 0 && c == 0 {
				return 0, 0, api.ErrLong
			}
			return x.Uint64(), at + k + 1, api.OK
		}
	}
}

func TestUvarintExamples(t *testing.T) {
	for _, c := range []struct {
		x    uint64
		want []byte
	}{
		{0, []byte{0}}, {1, []byte{1}}, {127, []byte{127}}, {128, []byte{128, 1}}, {300, []byte{172, 2}},
		{16383, []byte{255, 127}}, {16384, []byte{128, 128, 1}}, {half, run(128, 9, 1)}, {top, run(255, 9, 1)},
	} {
		if got := wire.Uvarint(c.x); !bytes.Equal(got, c.want) {
			t.Errorf("P1.1: Uvarint(%d) = %v, want %v", c.x, got, c.want)
		}
		if got := wire.Size(c.x); got != len(c.want) {
			t.Errorf("P1.1: Size(%d) = %d, want %d", c.x, got, len(c.want))
		}
	}
}

func TestUvarintAndSize(t *testing.T) {
	for _, x := range numbers() {
		want := groupsOf(x)
		if got := wire.Uvarint(x); !bytes.Equal(got, want) {
			t.Fatalf("P1.1: Uvarint(%d) = %v, want %v", x, got, want)
		}
		if got := wire.Size(x); got != len(want) {
			t.Fatalf("P1.1: Size(%d) = %d, want %d", x, got, len(want))
		}
	}
}

func TestReadUvarintExamples(t *testing.T) {
	three := []byte{172, 2, 9}
	for _, c := range []struct {
		b    []byte
		at   int
		x    uint64
		next int
		e    api.Errno
	}{
		{three, 0, 300, 2, api.OK}, {three, 1, 2, 2, api.OK}, {three, 2, 9, 3, api.OK}, {three, 3, 0, 0, api.ErrEnd},
		{three, 4, 0, 0, api.ErrArg}, {three, -1, 0, 0, api.ErrArg},
		{three, math.MaxInt, 0, 0, api.ErrArg}, {three, math.MinInt, 0, 0, api.ErrArg},
		{nil, 0, 0, 0, api.ErrEnd}, {nil, 1, 0, 0, api.ErrArg}, {nil, -1, 0, 0, api.ErrArg},
		{[]byte{0}, 0, 0, 1, api.OK}, {[]byte{0, 0}, 1, 0, 2, api.OK},
		{[]byte{128}, 0, 0, 0, api.ErrEnd}, {[]byte{128, 128}, 0, 0, 0, api.ErrEnd}, {run(128, 9), 0, 0, 0, api.ErrEnd},
		{[]byte{128, 0}, 0, 0, 0, api.ErrLong}, {[]byte{255, 128, 0}, 0, 0, 0, api.ErrLong}, {[]byte{128, 0, 1}, 0, 0, 0, api.ErrLong},
		{run(128, 9, 2), 0, 0, 0, api.ErrOver}, {run(128, 9, 1), 0, half, 10, api.OK},
		{run(128, 9, 0), 0, 0, 0, api.ErrLong}, {run(128, 9, 129), 0, 0, 0, api.ErrOver},
		{run(128, 9, 128), 0, 0, 0, api.ErrOver}, {run(255, 9, 1, 255), 0, top, 10, api.OK},
	} {
		if x, next, e := wire.ReadUvarint(c.b, c.at); x != c.x || next != c.next || e != c.e {
			t.Errorf("P1.2: ReadUvarint(%v, %d) = %d, %d, %d, want %d, %d, %d", c.b, c.at, x, next, e, c.x, c.next, c.e)
		}
	}
}

// TestReadByRule holds the reading against the rule at every place of many lists, good ones and wrong ones.
func TestReadByRule(t *testing.T) {
	seen := map[api.Errno]int{}
	for _, b := range lists() {
		for at := -2; at <= len(b)+2; at++ {
			wantX, wantNext, wantE := readByRule(b, at)
			seen[wantE]++
			x, next, e := wire.ReadUvarint(b, at)
			if x != wantX || next != wantNext || e != wantE {
				t.Fatalf("P1.2: ReadUvarint(%v, %d) = %d, %d, %d, want %d, %d, %d", b, at, x, next, e, wantX, wantNext, wantE)
			}
			n, next, e := wire.ReadVarint(b, at)
			if zigzagOf(n) != wantX || next != wantNext || e != wantE {
				t.Fatalf("P1.4: ReadVarint(%v, %d) = %d, %d, %d, want zigzag %d, %d, %d", b, at, n, next, e, wantX, wantNext, wantE)
			}
			if e == api.OK && (!bytes.Equal(b[at:next], wire.Uvarint(x)) || !bytes.Equal(b[at:next], wire.Varint(n))) {
				t.Fatalf("P1.9: %v is read as %d (signed %d), which has other bytes", b[at:next], x, n)
			}
		}
	}
	for _, e := range []api.Errno{api.OK, api.ErrArg, api.ErrEnd, api.ErrLong, api.ErrOver} {
		if seen[e] == 0 {
			t.Errorf("no list answers %d", e)
		}
	}
}

// TestReadBack reads each number off between other bytes: what lies behind it must not count.
func TestReadBack(t *testing.T) {
	for _, x := range numbers() {
		for _, behind := range []byte{0, 1, 128, 255} {
			b := append(append([]byte{behind}, wire.Uvarint(x)...), behind, behind)
			if y, next, e := wire.ReadUvarint(b, 1); y != x || next != len(b)-2 || e != api.OK {
				t.Fatalf("P1.9: ReadUvarint(%v, 1) = %d, %d, %d, want %d, %d, OK", b, y, next, e, x, len(b)-2)
			}
			n := int64(x)
			b = append(append([]byte{behind}, wire.Varint(n)...), behind, behind)
			if m, next, e := wire.ReadVarint(b, 1); m != n || next != len(b)-2 || e != api.OK {
				t.Fatalf("P1.9: ReadVarint(%v, 1) = %d, %d, %d, want %d, %d, OK", b, m, next, e, n, len(b)-2)
			}
		}
	}
}

// TestCutShort: no number's bytes begin another one's, so what is cut off is no number.
func TestCutShort(t *testing.T) {
	for _, x := range numbers() {
		b := wire.Uvarint(x)
		for n := range len(b) {
			if y, next, e := wire.ReadUvarint(b[:n], 0); y != 0 || next != 0 || e != api.ErrEnd {
				t.Fatalf("P1.9: ReadUvarint(%v, 0) = %d, %d, %d, want ErrEnd", b[:n], y, next, e)
			}
		}
	}
}

func TestZigZag(t *testing.T) {
	for _, c := range []struct {
		n int64
		u uint64
	}{{0, 0}, {-1, 1}, {1, 2}, {-2, 3}, {2, 4}, {-65, 129}, {math.MaxInt64, top - 1}, {math.MinInt64, top}} {
		if u := wire.Zig(c.n); u != c.u {
			t.Errorf("P1.3: Zig(%d) = %d, want %d", c.n, u, c.u)
		}
		if n := wire.Zag(c.u); n != c.n {
			t.Errorf("P1.3: Zag(%d) = %d, want %d", c.u, n, c.n)
		}
	}
	for _, x := range numbers() {
		if n := int64(x); wire.Zig(n) != zigzagOf(n) || wire.Zag(zigzagOf(n)) != n {
			t.Fatalf("P1.3: Zig(%d) = %d, Zag(%d) = %d", n, wire.Zig(n), zigzagOf(n), wire.Zag(zigzagOf(n)))
		}
		if n := wire.Zag(x); zigzagOf(n) != x {
			t.Fatalf("P1.3: Zag(%d) = %d, which has the zigzag %d", x, n, zigzagOf(n))
		}
	}
}

func TestVarint(t *testing.T) {
	if got := wire.Varint(-65); !bytes.Equal(got, []byte{129, 1}) {
		t.Errorf("P1.4: Varint(-65) = %v", got)
	}
	if n, next, e := wire.ReadVarint([]byte{129, 1}, 0); n != -65 || next != 2 || e != api.OK {
		t.Errorf("P1.4: ReadVarint(129 1, 0) = %d, %d, %d", n, next, e)
	}
	for _, x := range numbers() {
		if n := int64(x); !bytes.Equal(wire.Varint(n), groupsOf(zigzagOf(n))) {
			t.Fatalf("P1.4: Varint(%d) = %v, want %v", n, wire.Varint(n), groupsOf(zigzagOf(n)))
		}
	}
}

func TestDiffAndStepExamples(t *testing.T) {
	for _, c := range []struct{ from, to, d uint64 }{
		{10, 13, 6}, {13, 10, 5}, {top, 1, 4}, {1, top, 3}, {0, half, top}, {half, 0, top},
		{7, 7, 0}, {top, top, 0}, {0, half - 1, top - 1}, {half - 1, 0, top - 2}, {0, top, 1}, {top, 0, 2},
	} {
		if d := wire.Diff(c.from, c.to); d != c.d {
			t.Errorf("P1.5: Diff(%d, %d) = %d, want %d", c.from, c.to, d, c.d)
		}
		if to := wire.Step(c.from, c.d); to != c.to {
			t.Errorf("P1.5: Step(%d, %d) = %d, want %d", c.from, c.d, to, c.to)
		}
	}
}

// stepOf goes the way d in numbers that have no end, and takes the sum modulo 2^64.
func stepOf(from, d uint64) uint64 {
	way := new(big.Int).Rsh(new(big.Int).SetUint64(d), 1)
	if d%2 == 1 {
		way.Neg(way).Sub(way, big.NewInt(1))
	}
	way.Add(way, new(big.Int).SetUint64(from))
	return way.Mod(way, new(big.Int).Lsh(big.NewInt(1), 64)).Uint64()
}

func TestDiffAndStep(t *testing.T) {
	l := numbers()
	for k, a := range l {
		b := l[(k*7919+13)%len(l)]
		d := wire.Diff(a, b)
		if stepOf(a, d) != b || wire.Step(a, d) != b {
			t.Fatalf("P1.5: Diff(%d, %d) = %d, which leads to %d, by Step to %d", a, b, d, stepOf(a, d), wire.Step(a, d))
		}
		if to := wire.Step(a, b); to != stepOf(a, b) || wire.Diff(a, to) != b {
			t.Fatalf("P1.5: Step(%d, %d) = %d, want %d; Diff back %d", a, b, to, stepOf(a, b), wire.Diff(a, to))
		}
	}
}

// TestArgumentsStay looks at the bytes handed in and at the spare room behind them.
func TestArgumentsStay(t *testing.T) {
	for _, b := range lists() {
		whole := append(bytes.Clone(b), 171, 172, 173)
		before := bytes.Clone(whole)
		part := whole[:len(b)]
		for at := -1; at <= len(b)+1; at++ {
			x, next, e := wire.ReadUvarint(part, at)
			wire.ReadVarint(part, at)
			if y, again, f := wire.ReadUvarint(part, at); y != x || again != next || f != e {
				t.Fatalf("P0.3: ReadUvarint(%v, %d) answers twice unlike", b, at)
			}
		}
		c := wire.New(part)
		c.Byte()
		c.Uvarint()
		c.Varint()
		c.Bytes(1)
		if !bytes.Equal(whole, before) {
			t.Fatalf("P1.10: %v became %v", before, whole)
		}
	}
}

// TestSpareRoomIsNotRead: bytes behind the list's end do not belong to a number.
func TestSpareRoomIsNotRead(t *testing.T) {
	whole := []byte{128, 1, 1}
	if x, next, e := wire.ReadUvarint(whole[:1], 0); x != 0 || next != 0 || e != api.ErrEnd {
		t.Errorf("P1.2: ReadUvarint(128 with spare room, 0) = %d, %d, %d", x, next, e)
	}
}

// TestAnswersAreNew writes into answers and behind them, and asks again.
func TestAnswersAreNew(t *testing.T) {
	for _, x := range []uint64{0, 1, 127, 128, 300, half, top} {
		for name, write := range map[string]func() []byte{
			"Uvarint": func() []byte { return wire.Uvarint(x) },
			"Varint":  func() []byte { return wire.Varint(int64(x)) },
		} {
			first, other := write(), write()
			want := bytes.Clone(first)
			samples.Spoil(first, 99)
			if !bytes.Equal(other, want) || !bytes.Equal(write(), want) {
				t.Errorf("P0.5: answers of %s for %d share memory", name, x)
			}
		}
	}
}
