package delta_test

import (
	"bytes"
	"math"
	"math/rand"
	"slices"
	"testing"

	"hindsight/api"
	"hindsight/delta"
	"hindsight/samples"
	"hindsight/wire"
)

// samePut holds Put against the plain reading and answers the bytes and the error.
func samePut(t *testing.T, s api.State, r api.Rec) ([]byte, api.Errno) {
	t.Helper()
	b, next, e := delta.Put(s, r)
	wantB, wantNext, wantE := plainPut(s, r)
	if e != wantE || !bytes.Equal(b, wantB) || next != wantNext {
		t.Fatalf("P7.1: Put(%v, %v) = %v, %v, %d, want %v, %v, %d", s, r, b, next, e, wantB, wantNext, wantE)
	}
	return b, e
}

// sameGet holds Get against the plain reading, and what was read against what Put writes.
func sameGet(t *testing.T, s api.State, b []byte, at int) api.Errno {
	t.Helper()
	r, p, next, e := delta.Get(s, b, at)
	wantR, wantP, wantNext, wantE := plainGet(s, b, at)
	if e != wantE || r != wantR || p != wantP || next != wantNext {
		t.Fatalf("P7.2: Get(%v, %v, %d) = %v, %d, %v, %d, want %v, %d, %v, %d", s, b, at, r, p, next, e, wantR, wantP, wantNext, wantE)
	}
	if e != api.OK {
		return e
	}
	again, behind, e := delta.Put(s, r)
	if e != api.OK || !bytes.Equal(again, b[at:p]) || behind != next {
		t.Fatalf("P7.3: Get(%v, %v, %d) = %v; Put of that = %v, %v, %d", s, b, at, r, again, behind, e)
	}
	return api.OK
}

// readsBack reads what was put, with bytes ahead of it and behind it.
func readsBack(t *testing.T, s api.State, r api.Rec, a, b, c []byte) {
	t.Helper()
	got, p, next, e := delta.Get(s, slices.Concat(a, b, c), len(a))
	if e != api.OK || got != r || p != len(a)+len(b) || next != plainBehind(r) {
		t.Fatalf("P7.3: Get(%v, %v %v %v, %d) = %v, %d, %v, %d, want %v", s, a, b, c, len(a), got, p, next, e, r)
	}
}

func TestPutExamples(t *testing.T) {
	z, s := api.State{}, state(4, 1000, 5)
	for _, c := range []struct {
		s    api.State
		r    api.Rec
		b    []byte
		next api.State
		e    api.Errno
	}{
		{z, rec(0, 22, 0, 0, 0), []byte{22, 0}, state(1, 0, 0), api.OK},
		{z, rec(3, 1, 1000, 8, 5), []byte{225, 3, 208, 15, 8, 10}, state(4, 1000, 5), api.OK},
		{s, rec(4, 2, 1000, 8, 5), []byte{66, 0, 8}, state(5, 1000, 5), api.OK},
		{s, rec(9, 2, 992, 8, 2), []byte{226, 5, 15, 8, 5}, state(10, 992, 2), api.OK},
		{s, rec(3, 2, 0, 0, 0), nil, z, api.ErrStamp},
		{z, rec(maxEvents, 1, 0, 0, 0), nil, z, api.ErrStamp},
		{z, rec(0, 0, 0, 0, 0), nil, z, api.ErrKind},
		{z, rec(0, 23, 0, 0, 0), nil, z, api.ErrKind},
		{state(-1, 0, 0), rec(0, 1, 0, 0, 0), nil, z, api.ErrRec},
		{z, rec(0, 1, 0, 0, maxNodes+1), nil, z, api.ErrRec},
	} {
		b, next, e := delta.Put(c.s, c.r)
		if e != c.e || !bytes.Equal(b, c.b) || next != c.next {
			t.Errorf("P7.1: Put(%v, %v) = %v, %v, %d, want %v, %v, %d", c.s, c.r, b, next, e, c.b, c.next, c.e)
		}
	}
}

func TestGetExamples(t *testing.T) {
	z := api.State{}
	r, p, next, e := delta.Get(z, []byte{22, 0, 7}, 0)
	if e != api.OK || r != rec(0, 22, 0, 0, 0) || p != 2 || next != state(1, 0, 0) {
		t.Errorf("P7.2: Get(Z, 22 0 7, 0) = %v, %d, %v, %d", r, p, next, e)
	}
	for _, c := range []struct {
		b  []byte
		at int
		e  api.Errno
	}{
		{nil, 0, api.ErrEnd},
		{[]byte{}, 0, api.ErrEnd},
		{[]byte{22}, 0, api.ErrEnd},
		{[]byte{22, 0}, 3, api.ErrArg},
		{[]byte{0, 0}, 0, api.ErrKind},
		{[]byte{23, 0}, 0, api.ErrKind},
		{[]byte{31, 0}, 0, api.ErrKind},
		{[]byte{33, 0, 0}, 0, api.ErrRec},
		{[]byte{65, 0, 0}, 0, api.ErrRec},
		{[]byte{129, 0, 0}, 0, api.ErrRec},
		{[]byte{129, 0, 1}, 0, api.ErrRec},
		{[]byte{1, 128, 0}, 0, api.ErrLong},
	} {
		r, p, next, e := delta.Get(z, c.b, c.at)
		if e != c.e || r != (api.Rec{}) || p != 0 || next != z {
			t.Errorf("P7.2: Get(Z, %v, %d) = %v, %d, %v, %d, want %d", c.b, c.at, r, p, next, e, c.e)
		}
	}
}

// TestPutFaults: each of the faults alone, then with all that the chapter names behind it.
func TestPutFaults(t *testing.T) {
	type call struct {
		s api.State
		r api.Rec
	}
	good := call{state(10, 7, 20), rec(10, 5, 7, 0, 20)}
	faults := []struct {
		change func(*call)
		e      api.Errno
	}{
		{func(c *call) { c.s.Stamp = -1 }, api.ErrRec},
		{func(c *call) { c.r.Kind = 23 }, api.ErrKind},
		{func(c *call) { c.r.Stamp = maxEvents }, api.ErrStamp},
		{func(c *call) { c.r.Stack = -1 }, api.ErrRec},
	}
	if _, _, e := delta.Put(good.s, good.r); e != api.OK {
		t.Fatalf("P7.1: Put(%v, %v) = %d", good.s, good.r, e)
	}
	for k, fault := range faults {
		alone := good
		fault.change(&alone)
		more := alone
		for _, later := range faults[k+1:] {
			later.change(&more)
		}
		for _, c := range []call{alone, more} {
			b, next, e := delta.Put(c.s, c.r)
			if e != fault.e || len(b) != 0 || next != (api.State{}) {
				t.Errorf("P7.1: Put(%v, %v) = %v, %v, %d, want %d", c.s, c.r, b, next, e, fault.e)
			}
		}
	}
}

// TestPutEnds: each field at the ends of what it may be, and beyond them.
func TestPutEnds(t *testing.T) {
	z := api.State{}
	for _, c := range []struct {
		s api.State
		r api.Rec
		e api.Errno
	}{
		{state(maxEvents-1, 0, 0), rec(maxEvents-1, 1, 0, 0, 0), api.OK},
		{state(maxEvents, 0, 0), rec(maxEvents-1, 1, 0, 0, 0), api.ErrStamp},
		{state(maxEvents, 0, 0), rec(maxEvents, 1, 0, 0, 0), api.ErrStamp},
		{state(maxEvents+1, 0, 0), rec(maxEvents-1, 1, 0, 0, 0), api.ErrRec},
		{state(math.MaxInt, 0, 0), rec(math.MaxInt, 1, 0, 0, 0), api.ErrRec},
		{state(math.MinInt, 0, 0), rec(0, 1, 0, 0, 0), api.ErrRec},
		{state(0, 0, maxNodes), rec(0, 1, 0, 0, 0), api.OK},
		{state(0, 0, maxNodes+1), rec(0, 1, 0, 0, 0), api.ErrRec},
		{state(0, 0, -1), rec(0, 1, 0, 0, 0), api.ErrRec},
		{z, rec(0, 1, 0, 0, maxNodes), api.OK},
		{z, rec(0, 1, 0, 0, math.MaxInt), api.ErrRec},
		{z, rec(0, 1, 0, 0, math.MinInt), api.ErrRec},
		{z, rec(maxEvents-1, 1, 0, 0, 0), api.OK},
		{z, rec(-1, 1, 0, 0, 0), api.ErrStamp},
		{z, rec(math.MinInt, 1, 0, 0, 0), api.ErrStamp},
		{z, rec(math.MaxInt, 1, 0, 0, 0), api.ErrStamp},
		{state(1, 0, 0), rec(0, 1, 0, 0, 0), api.ErrStamp},
		{z, rec(0, 33, 0, 0, 0), api.ErrKind},
		{z, rec(0, 257, 0, 0, 0), api.ErrKind},
		{z, rec(0, -1, 0, 0, 0), api.ErrKind},
	} {
		if _, e := samePut(t, c.s, c.r); e != c.e {
			t.Errorf("P7.1: Put(%v, %v) = %d, want %d", c.s, c.r, e, c.e)
		}
	}
}

// TestKinds: all first bytes there are; what a kind may have for object and argument is not asked.
func TestKinds(t *testing.T) {
	s := state(2, 9, 4)
	for kind := -300; kind <= 300; kind++ {
		want := api.OK
		if kind < 1 || kind > 22 {
			want = api.ErrKind
		}
		for _, r := range []api.Rec{rec(2, kind, 9, 0, 4), rec(2, kind, 8, 0, 4), rec(2, kind, 9, 77, 4), rec(3, kind, 1, 1<<40, 5)} {
			if _, e := samePut(t, s, r); e != want {
				t.Errorf("P7.1: Put(%v, %v): %d, want %d", s, r, e, want)
			}
		}
	}
	for first := range 256 {
		want := api.OK
		if first%32 < 1 || first%32 > 22 {
			want = api.ErrKind
		}
		if e := sameGet(t, s, []byte{byte(first), 1, 2, 2, 2}, 0); e != want {
			t.Errorf("P7.2: the first byte %d: %d, want %d", first, e, want)
		}
		if e := sameGet(t, s, []byte{byte(first)}, 0); want == api.OK && e != api.ErrEnd || want != api.OK && e != want {
			t.Errorf("P7.2: the first byte %d alone: %d", first, e)
		}
	}
}

// TestAllGood: every good record of the samples is written as the chapter says, read back from between
// other bytes, and has from 2 to 27 bytes.
func TestAllGood(t *testing.T) {
	junk := [][]byte{nil, {0}, {255, 255}, {22, 0, 128}}
	least, most := math.MaxInt, 0
	for _, s := range goodStates() {
		for k, r := range goodRecs(s) {
			b, e := samePut(t, s, r)
			if e != api.OK {
				t.Fatalf("P7.1: Put(%v, %v) = %d", s, r, e)
			}
			readsBack(t, s, r, junk[k%4], b, junk[k/4%4])
			if len(b) < 2 || len(b) > 27 {
				t.Fatalf("P7.4: Put(%v, %v) has %d bytes", s, r, len(b))
			}
			least, most = min(least, len(b)), max(most, len(b))
		}
	}
	if least != 2 || most != 27 {
		t.Errorf("P7.4: the records have from %d to %d bytes", least, most)
	}
}

func TestShortest(t *testing.T) {
	for _, s := range goodStates() {
		for kind := 1; kind <= 22 && s.Stamp < maxEvents; kind++ {
			b, _, e := delta.Put(s, rec(s.Stamp, kind, s.Obj, 0, s.Stack))
			if e != api.OK || !bytes.Equal(b, []byte{byte(kind), 0}) {
				t.Errorf("P7.4: Put of the kind %d with all else of the state %v = %v, %d", kind, s, b, e)
			}
		}
	}
}

func TestLongest(t *testing.T) {
	full := slices.Concat(bytes.Repeat([]byte{255}, 9), []byte{1})
	for _, c := range []struct {
		s    api.State
		r    api.Rec
		tail []byte
	}{
		{api.State{}, rec(maxEvents-1, 22, 1<<63, math.MaxUint64, maxNodes), []byte{128, 128, 32}},
		{state(0, 1<<63, maxNodes), rec(maxEvents-1, 22, 0, math.MaxUint64, 0), []byte{255, 255, 31}},
	} {
		want := slices.Concat([]byte{246, 255, 255, 63}, full, full, c.tail)
		b, next, e := delta.Put(c.s, c.r)
		if e != api.OK || !bytes.Equal(b, want) || len(b) != 27 || next != state(maxEvents, c.r.Obj, c.r.Stack) {
			t.Errorf("P7.4: Put(%v, %v) = %v, %v, %d", c.s, c.r, b, next, e)
		}
		for cut := range b {
			if e := sameGet(t, c.s, b[:cut], 0); e != api.ErrEnd {
				t.Errorf("P7.2: %d bytes of %d: %d", cut, len(b), e)
			}
		}
	}
}

// TestObjectsFarApart: the way is the shorter one, over the end too; half way round it goes down.
func TestObjectsFarApart(t *testing.T) {
	const top = math.MaxUint64
	for _, c := range []struct {
		from, to uint64
		way      []byte
	}{
		{0, 1, []byte{2}},
		{1, 0, []byte{1}},
		{0, top, []byte{1}},
		{top, 0, []byte{2}},
		{top - 1, 2, []byte{8}},
		{2, top - 1, []byte{7}},
		{0, 63, []byte{126}},
		{0, 64, []byte{128, 1}},
		{64, 0, []byte{127}},
		{65, 0, []byte{129, 1}},
		{0, 1<<63 - 1, wire.Uvarint(top - 1)},
		{0, 1 << 63, wire.Uvarint(top)},
		{1 << 63, 0, wire.Uvarint(top)},
		{0, 1<<63 + 1, wire.Uvarint(top - 2)},
		{top, 1<<63 - 1, wire.Uvarint(top)},
	} {
		s, r := state(0, c.from, 0), rec(0, 18, c.to, 0, 0)
		b, _, e := delta.Put(s, r)
		want := append([]byte{18 + 32, 0}, c.way...)
		if e != api.OK || !bytes.Equal(b, want) {
			t.Errorf("P7.1: Put from the object %d to %d = %v, %d, want %v", c.from, c.to, b, e, want)
		}
		readsBack(t, s, r, nil, want, nil)
	}
}

// TestGetEnds: stamps and stacks at and beyond what they may be.
func TestGetEnds(t *testing.T) {
	top := wire.Uvarint(math.MaxUint64)
	stamped := func(above uint64) []byte { return append([]byte{1}, wire.Uvarint(above)...) }
	stacked := func(above int64) []byte { return append([]byte{129, 0}, wire.Varint(above)...) }
	for _, c := range []struct {
		s api.State
		b []byte
		e api.Errno
	}{
		{state(0, 0, 0), stamped(maxEvents - 1), api.OK},
		{state(0, 0, 0), stamped(maxEvents), api.ErrStamp},
		{state(5, 0, 0), stamped(maxEvents - 6), api.OK},
		{state(5, 0, 0), stamped(maxEvents - 5), api.ErrStamp},
		{state(maxEvents-1, 0, 0), stamped(0), api.OK},
		{state(maxEvents-1, 0, 0), stamped(1), api.ErrStamp},
		{state(maxEvents, 0, 0), stamped(0), api.ErrStamp},
		{state(maxEvents, 0, 0), stamped(math.MaxUint64), api.ErrStamp},
		{state(5, 0, 0), stamped(math.MaxUint64 - 4), api.ErrStamp}, // together 2^64
		{state(5, 0, 0), stamped(1<<63 - 5), api.ErrStamp},          // together 2^63
		{state(5, 0, 0), stamped(1 << 63), api.ErrStamp},
		{state(0, 0, 0), stacked(maxNodes), api.OK},
		{state(0, 0, 0), stacked(maxNodes + 1), api.ErrRec},
		{state(0, 0, 0), stacked(-1), api.ErrRec},
		{state(0, 0, maxNodes), stacked(1), api.ErrRec},
		{state(0, 0, maxNodes), stacked(-maxNodes), api.OK},
		{state(0, 0, maxNodes), stacked(-maxNodes - 1), api.ErrRec},
		{state(0, 0, 7), stacked(-7), api.OK},
		{state(0, 0, 7), stacked(-8), api.ErrRec},
		{state(0, 0, 7), stacked(maxNodes - 7), api.OK},
		{state(0, 0, 7), stacked(maxNodes - 6), api.ErrRec},
		{state(0, 0, 7), stacked(math.MaxInt64), api.ErrRec},
		{state(0, 0, 7), stacked(math.MinInt64), api.ErrRec},
		{state(0, 0, 7), stacked(1<<32 + 1), api.ErrRec},
		{state(0, 5, 0), append([]byte{33, 0}, top...), api.OK},
		{state(0, 5, 0), append([]byte{65, 0}, top...), api.OK},
	} {
		if e := sameGet(t, c.s, c.b, 0); e != c.e {
			t.Errorf("P7.2: Get(%v, %v, 0) = %d, want %d", c.s, c.b, e, c.e)
		}
	}
}

// TestGetPlaces: the state comes first, then the place, then the bytes.
func TestGetPlaces(t *testing.T) {
	b := []byte{22, 0, 0, 22, 0}
	for _, at := range []int{math.MinInt, -1, 6, 7, math.MaxInt} {
		if e := sameGet(t, api.State{}, b, at); e != api.ErrArg {
			t.Errorf("P7.2: Get(Z, %v, %d) = %d", b, at, e)
		}
		if e := sameGet(t, api.State{}, nil, at); e != api.ErrArg {
			t.Errorf("P7.2: Get(Z, none, %d) = %d", at, e)
		}
	}
	for at, want := range []api.Errno{api.OK, api.ErrKind, api.ErrKind, api.OK, api.ErrKind, api.ErrEnd} {
		if e := sameGet(t, api.State{}, b, at); e != want {
			t.Errorf("P7.2: Get(Z, %v, %d) = %d, want %d", b, at, e, want)
		}
	}
	for _, s := range []api.State{state(-1, 0, 0), state(maxEvents+1, 0, 0), state(0, 0, -1), state(0, 0, maxNodes+1), state(math.MinInt, 0, math.MaxInt)} {
		for _, at := range []int{-1, 0, 1, 6} {
			if e := sameGet(t, s, b, at); e != api.ErrRec {
				t.Errorf("P7.2: Get(%v, %v, %d) = %d", s, b, at, e)
			}
		}
	}
}

// numberTexts are numbers as bytes: good ones, short and long, and each way in which they go wrong.
func numberTexts() [][]byte {
	return [][]byte{
		{0}, {1}, {2}, {9}, {127}, {128, 1}, {255, 127},
		wire.Uvarint(maxEvents - 1), wire.Uvarint(maxEvents), wire.Uvarint(2 * maxNodes), wire.Uvarint(2*maxNodes + 2),
		wire.Uvarint(1 << 63), wire.Uvarint(math.MaxUint64),
		{128, 0}, {129, 0}, {255, 128, 0},
		append(bytes.Repeat([]byte{128}, 9), 0), append(bytes.Repeat([]byte{128}, 9), 2), bytes.Repeat([]byte{255}, 12),
	}
}

// TestGetParts: every first byte with numbers behind it of which some are wrong, often cut; so the first
// thing that is not right has others behind it.
func TestGetParts(t *testing.T) {
	pick := rand.New(rand.NewSource(7))
	texts, states := numberTexts(), goodStates()
	seen := samples.Seen{}
	for k := range 400000 {
		b := []byte{byte(k)}
		for range pick.Intn(6) {
			text := texts[pick.Intn(7)]
			if pick.Intn(3) == 0 {
				text = texts[pick.Intn(len(texts))]
			}
			b = append(b, text...)
		}
		if pick.Intn(4) == 0 {
			b = b[:1+pick.Intn(len(b))]
		}
		s := states[pick.Intn(len(states))]
		if pick.Intn(50) == 0 {
			s.Stack = -1
		}
		at := pick.Intn(3)
		b = append(bytes.Repeat([]byte{255}, at), b...)
		if pick.Intn(50) == 0 {
			at = len(b) + 1
		}
		seen[sameGet(t, s, b, at)]++
	}
	if rare := seen.Rare(api.OK, api.ErrArg, api.ErrEnd, api.ErrLong, api.ErrOver, api.ErrKind, api.ErrStamp, api.ErrRec); rare != nil {
		t.Errorf("the errors %v come too seldom: %v", rare, seen)
	}
}

// TestGetAllShort: all texts of two bytes, and all of up to six of a few bytes.
func TestGetAllShort(t *testing.T) {
	for first := range 256 {
		for second := range 256 {
			sameGet(t, state(1, 1, 1), []byte{byte(first), byte(second)}, 0)
		}
	}
	for _, b := range samples.AllBodies(6, 0, 1, 2, 33, 127, 128, 225, 255) {
		sameGet(t, state(3, 1000, 1), b, 0)
	}
}

// TestPutAnything: fields that may be and fields that may not, in any mixture.
func TestPutAnything(t *testing.T) {
	pick := rand.New(rand.NewSource(8))
	seen := samples.Seen{}
	for range 400000 {
		s := goodStates()[pick.Intn(7)]
		if pick.Intn(8) == 0 {
			s = state(one(pick, stamps()), one(pick, numbers()), one(pick, stacks()))
		}
		r := rec(one(pick, stamps()), one(pick, kinds()), one(pick, numbers()), one(pick, numbers()), one(pick, stacks()))
		b, e := samePut(t, s, r)
		seen[e]++
		if e == api.OK {
			readsBack(t, s, r, nil, b, b)
		}
	}
	if rare := seen.Rare(api.OK, api.ErrKind, api.ErrStamp, api.ErrRec); rare != nil {
		t.Errorf("the errors %v come too seldom: %v", rare, seen)
	}
}

func one[T any](pick *rand.Rand, of []T) T { return of[pick.Intn(len(of))] }

// TestRow: rows of records, each told against the one ahead of it, are read back record by record. The
// bytes are so many that the test takes very long if a Get goes through all of them.
func TestRow(t *testing.T) {
	pick := rand.New(rand.NewSource(9))
	for _, n := range []int{1, 2, 3, 100, 300000} {
		row, b, s := samples.Row(pick.Intn, n), []byte(nil), api.State{}
		for _, r := range row {
			more, next, e := delta.Put(s, r)
			if e != api.OK {
				t.Fatalf("P7.1: Put(%v, %v) = %d", s, r, e)
			}
			b, s = append(b, more...), next
		}
		at, last := 0, s
		s = api.State{}
		for k, want := range row {
			r, p, next, e := delta.Get(s, b, at)
			if e != api.OK || r != want {
				t.Fatalf("P7.3: the record %d of %d = %v, %d, want %v", k, n, r, e, want)
			}
			at, s = p, next
		}
		if at != len(b) || s != last {
			t.Errorf("P7.3: %d records end at %d of %d, with %v, want %v", n, at, len(b), s, last)
		}
		if _, _, _, e := delta.Get(s, b, at); e != api.ErrEnd {
			t.Errorf("P7.2: behind the last of %d records: %d", n, e)
		}
	}
}

// TestMemory: what is handed in stays, its spare room is neither read nor written, answers share nothing.
func TestMemory(t *testing.T) {
	room := []byte{7, 225, 3, 208, 15, 8, 10, 22, 0, 9}
	was := slices.Clone(room)
	for n := range room {
		for at := -1; at <= n+1; at++ {
			sameGet(t, api.State{}, room[:n], at)
		}
	}
	if !bytes.Equal(room, was) {
		t.Errorf("P7.5: what was handed in is %v now", room)
	}
	r := rec(3, 1, 1000, 8, 5)
	want, _, _ := delta.Put(api.State{}, r)
	a, _, _ := delta.Put(api.State{}, r)
	b, _, _ := delta.Put(api.State{}, r)
	for k := range a[:cap(a)] {
		a[:cap(a)][k] = 99
	}
	c, _, _ := delta.Put(api.State{}, r)
	if !bytes.Equal(b, want) || !bytes.Equal(c, want) {
		t.Errorf("P7.5: what was written into an answer is seen in others: %v, %v, want %v", b, c, want)
	}
}
