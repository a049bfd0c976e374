package wire_test

import (
	"bytes"
	"math"
	"math/rand"
	"testing"

	"hindsight/api"
	"hindsight/samples"
	"hindsight/wire"
)

func expect(t *testing.T, c *wire.Cursor, at, left int, fault api.Errno) {
	t.Helper()
	if c.At() != at || c.Left() != left || c.Fault() != fault {
		t.Errorf("P1.8: At %d, Left %d, Fault %d, want %d, %d, %d", c.At(), c.Left(), c.Fault(), at, left, fault)
	}
}

// expectNothing makes every call that takes: none may answer anything or move the cursor.
func expectNothing(t *testing.T, c *wire.Cursor) {
	t.Helper()
	at, left, fault := c.At(), c.Left(), c.Fault()
	if x := c.Byte(); x != 0 {
		t.Errorf("P1.8: Byte = %d", x)
	}
	if x := c.Uvarint(); x != 0 {
		t.Errorf("P1.8: Uvarint = %d", x)
	}
	if x := c.Varint(); x != 0 {
		t.Errorf("P1.8: Varint = %d", x)
	}
	for _, n := range []int{0, 1, 2, -1, math.MaxInt, math.MinInt} {
		if l := c.Bytes(n); len(l) != 0 {
			t.Errorf("P1.8: Bytes(%d) = %v", n, l)
		}
	}
	expect(t, c, at, left, fault)
}

func TestNewCursor(t *testing.T) {
	b := []byte{172, 2, 7}
	c := wire.New(b)
	expect(t, c, 0, 3, api.OK)
	for k := range b {
		b[k] = 255
	}
	if x, y := c.Uvarint(), c.Byte(); x != 300 || y != 7 {
		t.Errorf("P1.6: what was written into the list afterwards is seen: %d, %d", x, y)
	}
	for _, none := range [][]byte{nil, {}} {
		c := wire.New(none)
		if c == nil {
			t.Fatal("P0.6: a cursor over no bytes is nil")
		}
		expect(t, c, 0, 0, api.OK)
	}
}

func TestCursorNumbersExample(t *testing.T) {
	c := wire.New([]byte{172, 2, 7, 128})
	if x := c.Uvarint(); x != 300 {
		t.Errorf("P1.7: Uvarint = %d", x)
	}
	expect(t, c, 2, 2, api.OK)
	if x := c.Byte(); x != 7 {
		t.Errorf("P1.7: Byte = %d", x)
	}
	expect(t, c, 3, 1, api.OK)
	if x := c.Uvarint(); x != 0 {
		t.Errorf("P1.7: Uvarint = %d", x)
	}
	expect(t, c, 3, 1, api.ErrEnd)
	expectNothing(t, c)
}

func TestCursorBytesExample(t *testing.T) {
	c := wire.New([]byte{1, 2, 3})
	if l := c.Bytes(2); !bytes.Equal(l, []byte{1, 2}) {
		t.Errorf("P1.7: Bytes(2) = %v", l)
	}
	if l := c.Bytes(0); len(l) != 0 {
		t.Errorf("P1.7: Bytes(0) = %v", l)
	}
	expect(t, c, 2, 1, api.OK)
	if l := c.Bytes(2); len(l) != 0 {
		t.Errorf("P1.7: Bytes(2) = %v", l)
	}
	expect(t, c, 2, 1, api.ErrTake)
	expectNothing(t, c)
}

// TestCursorFaults: each call that takes, at what it can't take; the place stays ahead of it.
func TestCursorFaults(t *testing.T) {
	uvarint := func(c *wire.Cursor) { c.Uvarint() }
	varint := func(c *wire.Cursor) { c.Varint() }
	taking := func(n int) func(*wire.Cursor) { return func(c *wire.Cursor) { c.Bytes(n) } }
	for _, x := range []struct {
		name  string
		b     []byte
		call  func(*wire.Cursor)
		fault api.Errno
	}{
		{"Byte of none", nil, func(c *wire.Cursor) { c.Byte() }, api.ErrEnd},
		{"Uvarint of none", nil, uvarint, api.ErrEnd},
		{"Uvarint cut", []byte{128}, uvarint, api.ErrEnd},
		{"Uvarint long", []byte{128, 0}, uvarint, api.ErrLong},
		{"Uvarint over", run(128, 9, 2), uvarint, api.ErrOver},
		{"Varint of none", nil, varint, api.ErrEnd},
		{"Varint cut", []byte{255, 255}, varint, api.ErrEnd},
		{"Varint long", []byte{255, 128, 0}, varint, api.ErrLong},
		{"Varint over", run(255, 10), varint, api.ErrOver},
		{"Bytes one too many", []byte{1}, taking(2), api.ErrTake},
		{"Bytes of none", nil, taking(1), api.ErrTake},
		{"Bytes below 0", []byte{1}, taking(-1), api.ErrTake},
		{"Bytes far below 0", []byte{1}, taking(math.MinInt), api.ErrTake},
		{"Bytes huge", []byte{1}, taking(math.MaxInt), api.ErrTake},
	} {
		t.Run(x.name, func(t *testing.T) {
			c := wire.New(append([]byte{5, 6}, x.b...))
			c.Bytes(2)
			x.call(c)
			expect(t, c, 2, len(x.b), x.fault)
			expectNothing(t, c)
		})
	}
}

// TestCursorNoBytesAtTheEnd: to take none is no fault, even where none is left.
func TestCursorNoBytesAtTheEnd(t *testing.T) {
	c := wire.New([]byte{1})
	c.Byte()
	if l := c.Bytes(0); len(l) != 0 {
		t.Errorf("P1.7: Bytes(0) = %v", l)
	}
	expect(t, c, 1, 0, api.OK)
}

// model is a cursor told by ReadUvarint, ReadVarint and the words of P1.7 and P1.8.
type model struct {
	b     []byte
	at    int
	fault api.Errno
}

// number takes one by either reading, as a number of 64 bits.
func (m *model) number(signed bool) uint64 {
	x, next, e := wire.ReadUvarint(m.b, m.at)
	if signed {
		x = uint64(wire.Zag(x))
	}
	if m.fault != api.OK {
		return 0
	}
	if m.fault = e; e == api.OK {
		m.at = next
	}
	return x
}

// bytes takes n of them; short is the fault if they are not there.
func (m *model) bytes(n int, short api.Errno) []byte {
	if m.fault != api.OK {
		return nil
	}
	if n < 0 || n > len(m.b)-m.at {
		m.fault = short
		return nil
	}
	m.at += n
	return bytes.Clone(m.b[m.at-n : m.at])
}

// step makes one call of the sort that r chooses, on both, and says whether they answered alike.
func step(r *rand.Rand, c *wire.Cursor, m *model) bool {
	switch r.Intn(4) {
	case 0:
		want := append(m.bytes(1, api.ErrEnd), 0)[0]
		return c.Byte() == want
	case 1:
		return c.Uvarint() == m.number(false)
	case 2:
		return uint64(c.Varint()) == m.number(true)
	default:
		n := r.Intn(8) - 1
		return bytes.Equal(c.Bytes(n), m.bytes(n, api.ErrTake))
	}
}

func someBytes(r *rand.Rand) []byte {
	var b []byte
	for range r.Intn(12) {
		b = append(b, wire.Uvarint(r.Uint64()>>r.Intn(64))...)
	}
	if r.Intn(2) == 0 {
		b = append(b, run(128, r.Intn(10), byte(r.Intn(3)))...)
	}
	return b
}

// TestCursorAgainstModel makes many rows of calls, two cursors side by side: neither may tell of the other.
func TestCursorAgainstModel(t *testing.T) {
	r := rand.New(rand.NewSource(2))
	for range 5000 {
		var cursors [2]*wire.Cursor
		var models [2]*model
		for k := range cursors {
			b := someBytes(r)
			cursors[k], models[k] = wire.New(b), &model{b: bytes.Clone(b)}
		}
		for range 40 {
			k := r.Intn(2)
			c, m := cursors[k], models[k]
			at := m.at
			alike := step(r, c, m)
			if !alike || c.At() != m.at || c.Left() != len(m.b)-m.at || c.Fault() != m.fault {
				t.Fatalf("P1.7, P1.8: over %v from %d: alike %v, At %d, Left %d, Fault %d, want %d, %d, %d",
					m.b, at, alike, c.At(), c.Left(), c.Fault(), m.at, len(m.b)-m.at, m.fault)
			}
		}
	}
}

// TestCursorAnswersAreNew writes into what Bytes answered, and behind it.
func TestCursorAnswersAreNew(t *testing.T) {
	b := []byte{1, 2, 3, 4, 5, 6}
	c := wire.New(b)
	first := c.Bytes(2)
	none := c.Bytes(0)
	second := c.Bytes(2)
	samples.Spoil(first, 99)
	samples.Spoil(none, 99)
	if !bytes.Equal(second, []byte{3, 4}) {
		t.Errorf("P1.10: two answers share memory: %v", second)
	}
	samples.Spoil(second, 99)
	if l := c.Bytes(2); !bytes.Equal(l, []byte{5, 6}) {
		t.Errorf("P1.10: an answer and the cursor share memory: %v", l)
	}
	if !bytes.Equal(b, []byte{1, 2, 3, 4, 5, 6}) {
		t.Errorf("P1.10: an answer and what was handed in share memory: %v", b)
	}
}

// TestCursorsOverOneList: what is taken off one is still there in the other.
func TestCursorsOverOneList(t *testing.T) {
	b := []byte{1, 2}
	one, other := wire.New(b), wire.New(b)
	samples.Spoil(one.Bytes(2), 99)
	one.Byte()
	expect(t, one, 2, 0, api.ErrEnd)
	expect(t, other, 0, 2, api.OK)
	if l := other.Bytes(2); !bytes.Equal(l, []byte{1, 2}) {
		t.Errorf("P0.3: the other cursor's bytes are %v", l)
	}
}

func TestNilCursor(t *testing.T) {
	var c *wire.Cursor
	expect(t, c, 0, 0, api.ErrNil)
	expectNothing(t, c)
}
