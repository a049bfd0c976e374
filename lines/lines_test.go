package lines

import (
	"math/bits"
	"math/rand"
	"slices"
	"testing"
)

// tally are the numbers of what touched a byte.
type tally struct{ list []int }

// Clone leaves room behind the list: if it were shared, one would write into the other.
func (a tally) Clone() tally {
	return tally{slices.Grow(slices.Clone(a.list), 4)}
}

// plain is a memory that keeps each byte alone.
type plain map[uint64][]int

func (p plain) touch(first, last uint64, number int) {
	for k := range last - first + 1 {
		p[first+k] = append(slices.Clip(p[first+k]), number)
	}
}

func (p plain) forget(first, last uint64) {
	for k := range last - first + 1 {
		delete(p, first+k)
	}
}

// touch touches bytes, and fails if they are not gone over just once each, each with what is kept of it.
func touch(t *testing.T, m *Memory[tally], p plain, first, last uint64, number int) {
	t.Helper()
	var met []uint64
	for bytes, kept := range m.Touch(first, last) {
		for address := range bytes.All() {
			if !slices.Equal(kept.list, p[address]) {
				t.Fatalf("at %d: %v, want %v", address, kept.list, p[address])
			}
			met = append(met, address)
		}
		kept.list = append(kept.list, number)
	}
	p.touch(first, last, number)
	slices.Sort(met)
	for k, address := range met {
		if address != first+uint64(k) {
			t.Fatalf("from %d to %d it went over %v", first, last, met)
		}
	}
	if uint64(len(met)) != last-first+1 {
		t.Fatalf("from %d to %d it went over %v", first, last, met)
	}
}

// same fails if a memory keeps something else than the plain one, in a range of bytes in which all lie; or
// keeps it in lines or cells that are empty, or that have bytes in common.
func same(t *testing.T, m *Memory[tally], p plain, first, last uint64) {
	t.Helper()
	for k := range last - first + 1 {
		if got := m.At(first + k).list; !slices.Equal(got, p[first+k]) {
			t.Fatalf("At(%d) = %v, want %v", first+k, got, p[first+k])
		}
	}
	bytes := 0
	for line, cells := range m.lines {
		all := uint64(0)
		for _, c := range cells {
			if c.which == 0 || all&c.which != 0 {
				t.Fatalf("the line %d has %v", line, cells)
			}
			all |= c.which
			bytes += bits.OnesCount64(c.which)
		}
		if all == 0 {
			t.Fatalf("the line %d is empty", line)
		}
	}
	if m.Words() != len(p) || bytes != len(p) {
		t.Fatalf("Words = %d, and cells of %d bytes, want %d", m.Words(), bytes, len(p))
	}
}

// TestAsPlain: much is touched and forgotten, at either end of memory and between.
func TestAsPlain(t *testing.T) {
	const room = 300
	r := rand.New(rand.NewSource(201))
	for _, base := range []uint64{0, 1<<40 - 37, 1<<64 - room} {
		for range 60 {
			var m Memory[tally]
			p := plain{}
			same(t, &m, p, base, base+room-1)
			most := 1 + r.Intn(80)
			for number := range 80 {
				first := base + uint64(r.Intn(room))
				last := first + uint64(r.Intn(most))
				if last < first || last-base >= room {
					last = base + room - 1
				}
				if r.Intn(4) == 0 {
					m.Forget(first, last)
					p.forget(first, last)
				} else {
					touch(t, &m, p, first, last, number)
				}
				same(t, &m, p, base, base+room-1)
			}
			m.Forget(base, base+room-1)
			same(t, &m, plain{}, base, base+room-1)
			if len(m.lines) != 0 {
				t.Fatalf("it keeps %d lines", len(m.lines))
			}
		}
	}
}

// TestFewCells: bytes that were touched alike are kept once.
func TestFewCells(t *testing.T) {
	var m Memory[tally]
	count := func(want int) {
		t.Helper()
		cells := 0
		for _, list := range m.lines {
			cells += len(list)
		}
		if cells != want {
			t.Errorf("it keeps %d cells, want %d", cells, want)
		}
	}
	p := plain{}
	for number := range 50 {
		touch(t, &m, p, 60, 67, number)
		count(2)
	}
	touch(t, &m, p, 61, 61, 50)
	count(3)
	touch(t, &m, p, 60, 67, 51)
	count(3)
	m.Forget(62, 63)
	count(3)
	m.Forget(60, 60)
	count(2)
	m.Forget(64, 70)
	count(1)
	touch(t, &m, plain{61: p[61]}, 0, 127, 52)
	count(3)
	m.Forget(0, 1<<16)
	count(0)
}

// TestBrokenOff: who looks at a part alone changes nothing else.
func TestBrokenOff(t *testing.T) {
	var m Memory[tally]
	p := plain{}
	touch(t, &m, p, 0, 99, 1)
	touch(t, &m, p, 10, 20, 2)
	for range m.Touch(15, 80) {
		break
	}
	for bytes := range m.Touch(0, 99) {
		for range bytes.All() {
			break
		}
	}
	same(t, &m, p, 0, 200)
}

// TestAll: the addresses of bytes rise.
func TestAll(t *testing.T) {
	for _, b := range []struct {
		bytes Bytes
		want  []uint64
	}{
		{Bytes{0, 0}, nil},
		{Bytes{0, 1}, []uint64{0}},
		{Bytes{2, 1<<63 | 1<<5 | 1}, []uint64{128, 133, 191}},
		{Bytes{1<<58 - 1, 3 << 62}, []uint64{1<<64 - 2, 1<<64 - 1}},
	} {
		if got := slices.Collect(b.bytes.All()); !slices.Equal(got, b.want) {
			t.Errorf("All of %v = %v", b.bytes, got)
		}
	}
}
