package stream_test

import (
	"bytes"
	"math"
	"math/rand"
	"slices"
	"testing"

	"hindsight/api"
	"hindsight/samples"
	"hindsight/stream"
)

// sameEncode holds Encode against the plain reading and answers its error.
func sameEncode(t *testing.T, recs []api.Rec, limit int) api.Errno {
	t.Helper()
	bodies, e := stream.Encode(recs, limit)
	want, wantE := plainEncode(recs, limit)
	if e != wantE || !sameBodies(bodies, want) {
		t.Fatalf("P8.1: Encode(%.200v, %d) = %.200v, %d, want %.200v, %d", recs, limit, bodies, e, want, wantE)
	}
	return e
}

// sameChunk holds Chunk against the plain reading and answers its error.
func sameChunk(t *testing.T, body []byte) api.Errno {
	t.Helper()
	recs, e := stream.Chunk(body)
	want, wantE := plainChunk(body)
	if e != wantE || !slices.Equal(recs, want) {
		t.Fatalf("P8.2: Chunk(%.200v) = %.200v, %d, want %.200v, %d", body, recs, e, want, wantE)
	}
	return e
}

// sameDecode holds Decode against the plain reading, and what was read against what Encode writes of it.
func sameDecode(t *testing.T, bodies [][]byte, limit int) api.Errno {
	t.Helper()
	recs, e := stream.Decode(bodies, limit)
	want, wantE := plainDecode(bodies, limit)
	if e != wantE || !slices.Equal(recs, want) {
		t.Fatalf("P8.3: Decode(%.200v, %d) = %.200v, %d, want %.200v, %d", bodies, limit, recs, e, want, wantE)
	}
	if e != api.OK {
		return e
	}
	if again, e := stream.Encode(recs, limit); e != api.OK || !sameBodies(again, bodies) {
		t.Fatalf("P8.6: Decode(%.200v, %d) is OK; Encode of that = %.200v, %d", bodies, limit, again, e)
	}
	return api.OK
}

// bothWays holds a stream that is cut into some parts against its bodies, written and read, whole and one by one.
func bothWays(t *testing.T, parts [][]api.Rec, limit int) {
	t.Helper()
	var want [][]byte
	for _, part := range parts {
		want = append(want, text(part))
	}
	recs := slices.Concat(parts...)
	bodies, e := stream.Encode(recs, limit)
	if e != api.OK || !sameBodies(bodies, want) {
		t.Fatalf("P8.1: Encode of %d records for the limit %d: %d bodies, %d, want %d", len(recs), limit, len(bodies), e, len(want))
	}
	read, e := stream.Decode(bodies, limit)
	if e != api.OK || !slices.Equal(read, recs) {
		t.Fatalf("P8.6: Decode of the bodies of %d records for the limit %d: %d records, %d", len(recs), limit, len(read), e)
	}
	for k, body := range bodies {
		if part, e := stream.Chunk(body); e != api.OK || !slices.Equal(part, parts[k]) {
			t.Fatalf("P8.6: Chunk of the body %d of %d = %.200v, %d, want %.200v", k, len(bodies), part, e, parts[k])
		}
	}
}

func TestEncodeExamples(t *testing.T) {
	for _, c := range []struct {
		recs   []api.Rec
		limit  int
		bodies [][]byte
		e      api.Errno
	}{
		{marks(0, 2), 64, [][]byte{{22, 0, 22, 0}}, api.OK},
		{nil, 64, nil, api.OK},
		{[]api.Rec{}, 64, nil, api.OK},
		{marks(0, 2), 63, nil, api.ErrArg},
		{marks(0, 33), 64, [][]byte{bytes.Repeat([]byte{22, 0}, 32), {22, 32}}, api.OK},
		{[]api.Rec{mark(1), mark(1)}, 64, nil, api.ErrOrder},
		{[]api.Rec{mark(1), mark(0)}, 64, nil, api.ErrOrder},
		{[]api.Rec{rec(0, 0, 0, 0, 0)}, 64, nil, api.ErrKind},
		{[]api.Rec{mark(-1)}, 64, nil, api.ErrStamp},
		{[]api.Rec{mark(3), mark(-1)}, 64, nil, api.ErrStamp},
		{[]api.Rec{rec(3, 1, 1000, 8, 5), rec(4, 2, 1000, 8, 5)}, 64, [][]byte{{225, 3, 208, 15, 8, 10, 66, 0, 8}}, api.OK},
	} {
		if bodies, e := stream.Encode(c.recs, c.limit); e != c.e || !sameBodies(bodies, c.bodies) {
			t.Errorf("P8.1: Encode(%v, %d) = %v, %d, want %v, %d", c.recs, c.limit, bodies, e, c.bodies, c.e)
		}
		sameEncode(t, c.recs, c.limit)
	}
}

func TestChunkExamples(t *testing.T) {
	for _, c := range []struct {
		body []byte
		recs []api.Rec
		e    api.Errno
	}{
		{[]byte{22, 0, 22, 0}, marks(0, 2), api.OK},
		{nil, nil, api.ErrForm},
		{[]byte{}, nil, api.ErrForm},
		{[]byte{22, 0, 22}, nil, api.ErrEnd},
		{[]byte{22}, nil, api.ErrEnd},
		{[]byte{22, 7}, marks(7, 1), api.OK},
		{[]byte{225, 3, 208, 15, 8, 10, 66, 0, 8}, []api.Rec{rec(3, 1, 1000, 8, 5), rec(4, 2, 1000, 8, 5)}, api.OK},
		{[]byte{22, 0, 0, 0}, nil, api.ErrKind},
		{[]byte{22, 0, 22, 128, 0}, nil, api.ErrLong},
		{[]byte{22, 0, 54, 0, 0}, nil, api.ErrRec},
		{[]byte{22, 255, 255, 63}, marks(maxEvents-1, 1), api.OK},
		{[]byte{22, 255, 255, 63, 22, 0}, nil, api.ErrStamp}, // no stamp is left
		{[]byte{22, 128, 128, 64}, nil, api.ErrStamp},
	} {
		if recs, e := stream.Chunk(c.body); e != c.e || !slices.Equal(recs, c.recs) {
			t.Errorf("P8.2: Chunk(%v) = %v, %d, want %v, %d", c.body, recs, e, c.recs, c.e)
		}
	}
}

func TestDecodeExamples(t *testing.T) {
	full := text(marks(0, 32))
	for _, c := range []struct {
		name   string
		bodies [][]byte
		recs   []api.Rec
		e      api.Errno
	}{
		{"no bodies", nil, nil, api.OK},
		{"an empty list of bodies", [][]byte{}, nil, api.OK},
		{"two bodies with room in one", [][]byte{{22, 0}, {22, 1}}, nil, api.ErrChunk},
		{"a stamp that stands still", [][]byte{{22, 0, 22, 0}, {22, 1}}, nil, api.ErrOrder},
		{"a stamp that falls", [][]byte{{22, 0, 22, 0}, {22, 0}}, nil, api.ErrOrder},
		{"one body", [][]byte{{22, 0, 22, 0}}, marks(0, 2), api.OK},
		{"a full body and another", [][]byte{full, {22, 32}}, marks(0, 33), api.OK},
		{"a full body, and a stamp that stands still", [][]byte{full, {22, 31}}, nil, api.ErrOrder},
		{"a full body, and its first stamp again", [][]byte{full, {22, 0}}, nil, api.ErrOrder},
		{"a body without bytes", [][]byte{{}}, nil, api.ErrForm},
		{"a body that is nil", [][]byte{nil}, nil, api.ErrForm},
		{"a body without bytes at the end", [][]byte{full, {}}, nil, api.ErrForm},
		{"a body without bytes ahead of a wrong one", [][]byte{{}, {0, 0}}, nil, api.ErrForm},
		{"a body that ends inside a record", [][]byte{{22, 0, 22}}, nil, api.ErrEnd},
		{"a record over two bodies", [][]byte{append(slices.Clone(full), 22), {32}}, nil, api.ErrEnd},
		{"a wrong kind behind a wrong cut", [][]byte{{22, 0}, {22, 1}, {0, 0}}, nil, api.ErrKind},
		{"a stamp that stands still behind a wrong cut", [][]byte{{22, 0}, {22, 1}, {22, 1}}, nil, api.ErrOrder},
		{"a wrong kind in the body whose first stamp falls", [][]byte{{22, 5}, {22, 1, 0, 0}}, nil, api.ErrKind},
		{"a stamp that falls ahead of a wrong kind", [][]byte{{22, 5}, {22, 1}, {0, 0}}, nil, api.ErrOrder},
		{"a stamp that stands still ahead of a wrong kind", [][]byte{{22, 5}, {22, 5}, {0, 0}}, nil, api.ErrOrder},
		{"a body past the limit", [][]byte{append(slices.Clone(full), 22, 0)}, nil, api.ErrChunk},
		{"a body that lacks its last record", [][]byte{full[:62], {22, 31, 22, 0}}, nil, api.ErrChunk},
		{"the stamps far apart", [][]byte{full, {22, 255, 255, 63}}, append(marks(0, 32), mark(maxEvents-1)), api.OK},
	} {
		if recs, e := stream.Decode(c.bodies, 64); e != c.e || !slices.Equal(recs, c.recs) {
			t.Errorf("P8.3: %s: Decode(%v) = %v, %d, want %v, %d", c.name, c.bodies, recs, e, c.recs, c.e)
		}
		sameDecode(t, c.bodies, 64)
	}
}

// TestWrongLimits: the limit comes first, whatever else is wrong.
func TestWrongLimits(t *testing.T) {
	for _, limit := range wrongLimits() {
		for _, recs := range [][]api.Rec{nil, marks(0, 2), {mark(1), mark(1)}, {{}}, {mark(-1)}} {
			if bodies, e := stream.Encode(recs, limit); len(bodies) != 0 || e != api.ErrArg {
				t.Errorf("P8.1: Encode(%v, %d) = %v, %d", recs, limit, bodies, e)
			}
		}
		for _, bodies := range [][][]byte{nil, {{22, 0}}, {{}}, {{0}}, {{22, 0}, {22, 1}}, {{22, 0}, {22, 0}}} {
			if recs, e := stream.Decode(bodies, limit); len(recs) != 0 || e != api.ErrArg {
				t.Errorf("P8.3: Decode(%v, %d) = %v, %d", bodies, limit, recs, e)
			}
		}
	}
	for _, limit := range []int{minLimit, minLimit + 1, maxLimit - 1, maxLimit} {
		bothWays(t, [][]api.Rec{marks(0, 2)}, limit)
		bothWays(t, nil, limit)
	}
}

// TestEncodeFaults: the first record that is wrong tells, and of it what delta says ahead of the order.
func TestEncodeFaults(t *testing.T) {
	for _, c := range []struct {
		recs []api.Rec
		e    api.Errno
	}{
		{[]api.Rec{mark(1), rec(1, 0, 0, 0, 0)}, api.ErrKind},
		{[]api.Rec{mark(1), rec(0, 23, 0, 0, -1)}, api.ErrKind},
		{[]api.Rec{mark(1), rec(-1, 22, 0, 0, -1)}, api.ErrStamp},
		{[]api.Rec{mark(1), rec(maxEvents, 22, 0, 0, 0)}, api.ErrStamp},
		{[]api.Rec{mark(1), rec(0, 22, 0, 0, -1)}, api.ErrRec},
		{[]api.Rec{mark(1), rec(1, 22, 0, 0, maxNodes+1)}, api.ErrRec},
		{[]api.Rec{mark(1), rec(1, 22, 0, 0, maxNodes)}, api.ErrOrder},
		{[]api.Rec{mark(1), mark(1), rec(2, 0, 0, 0, 0)}, api.ErrOrder},
		{[]api.Rec{mark(1), rec(2, 0, 0, 0, 0), mark(2)}, api.ErrKind},
		{[]api.Rec{mark(5), mark(7), mark(6)}, api.ErrOrder},
		{[]api.Rec{mark(0), mark(0)}, api.ErrOrder},
		{[]api.Rec{mark(maxEvents - 1)}, api.OK},
		{[]api.Rec{mark(maxEvents - 1), mark(maxEvents - 1)}, api.ErrOrder},
		{[]api.Rec{mark(maxEvents - 1), mark(maxEvents)}, api.ErrStamp},
		{[]api.Rec{mark(maxEvents - 1), mark(0)}, api.ErrOrder},
		{[]api.Rec{mark(math.MaxInt)}, api.ErrStamp},
		{[]api.Rec{mark(math.MinInt)}, api.ErrStamp},
		{append(marks(0, 32), mark(32)), api.OK},
		{append(marks(0, 32), mark(31)), api.ErrOrder}, // the record that would begin a body
		{append(marks(0, 32), mark(0)), api.ErrOrder},
		{append(marks(0, 33), mark(31)), api.ErrOrder},
		{append(marks(0, 33), mark(32)), api.ErrOrder},
		{append(marks(0, 33), mark(33)), api.OK},
	} {
		if e := sameEncode(t, c.recs, 64); e != c.e {
			t.Errorf("P8.1: Encode(%v, 64) = %d, want %d", c.recs, e, c.e)
		}
	}
}

// sized are records behind others without objects and stacks, the k-th one of k+2 bytes, up to 26: the
// argument has from 1 to 10 bytes, the object too, the stack from 1 to 3.
func sized(stamp int) []api.Rec {
	list := []api.Rec{mark(stamp)}
	for k := range 10 {
		list = append(list, rec(stamp, 22, 0, 1<<(7*k), 0))
	}
	for k := range 10 {
		list = append(list, rec(stamp, 22, 1<<max(7*k-1, 0), 1<<63, 0))
	}
	for k := range 3 {
		list = append(list, rec(stamp, 22, 1<<63, 1<<63, 1<<max(7*k-1, 0)))
	}
	return list
}

func TestSized(t *testing.T) {
	for k, r := range sized(0) {
		if n := len(text([]api.Rec{r})); n != k+2 {
			t.Errorf("the test's own record %v has %d bytes, want %d", r, n, k+2)
		}
	}
}

// TestRoom: a body that is just full, and one that has a byte or more too few for its last record.
func TestRoom(t *testing.T) {
	for _, limit := range []int{64, 65, 66, 67, 79, 80, 127, 128, 129, 255, 256} {
		sizes := map[int]int{}
		for ahead := limit/2 - 15; ahead <= limit/2; ahead++ {
			for k, r := range sized(ahead) {
				recs := append(marks(0, ahead), r)
				size := 2*ahead + k + 2
				if size <= limit {
					bothWays(t, [][]api.Rec{recs}, limit)
				} else {
					bothWays(t, [][]api.Rec{recs[:ahead], recs[ahead:]}, limit)
				}
				sizes[size]++
				sameEncode(t, append(recs, mark(ahead+1), mark(ahead+2)), limit)
			}
		}
		if sizes[limit] < 5 || sizes[limit+1] < 5 {
			t.Errorf("the limit %d: %d bodies are just full, %d lack a byte", limit, sizes[limit], sizes[limit+1])
		}
	}
}

// TestToldNotAlone: whether a record has room hangs on how it is told behind the others, not on how it
// would be told in a body of its own.
func TestToldNotAlone(t *testing.T) {
	// 15 bytes, then two for each record.
	far := make([]api.Rec, 26)
	for k := range far {
		far[k] = rec(k, 22, 1<<63, 0, maxNodes)
	}
	if n := len(text(far)); n != 65 {
		t.Fatalf("the test's own records have %d bytes", n)
	}
	bothWays(t, [][]api.Rec{far}, 65)
	bothWays(t, [][]api.Rec{far[:25], far[25:]}, 64)
	// Alone the last one has two bytes, behind the others 15.
	far[25] = mark(25)
	bothWays(t, [][]api.Rec{far[:25], far[25:]}, 65)
	bothWays(t, [][]api.Rec{far[:25], far[25:]}, 77)
	bothWays(t, [][]api.Rec{far}, 78)
}

// TestLongest: records of 27 bytes each; for the least limit two of them have room in a body.
func TestLongest(t *testing.T) {
	recs := []api.Rec{rec(maxEvents-1, 22, 1<<63, math.MaxUint64, maxNodes)}
	if n := len(text(recs)); n != 27 {
		t.Fatalf("the test's own record has %d bytes", n)
	}
	bothWays(t, [][]api.Rec{recs}, 64)
	recs = nil
	for k := range 50 {
		obj, stack := uint64(k%2)<<63, k%2*maxNodes
		recs = append(recs, rec((k+1)*20000, 1+k%22, obj, math.MaxUint64, stack))
	}
	for _, limit := range []int{64, 80, 81, 82, 1000} {
		bothWays(t, plainParts(recs, limit), limit)
	}
}

// TestAllStamps: as many records as there are stamps, for the greatest limit and others. The bytes are
// so many that the test takes very long if each record goes through all of them.
func TestAllStamps(t *testing.T) {
	all := marks(0, maxEvents)
	// The first stamp of the second body and that of the third one have three bytes.
	bothWays(t, [][]api.Rec{all[:524288], all[524288:1048575], all[1048575:]}, maxLimit)
	bothWays(t, [][]api.Rec{all[:524287], all[524287:1048573], all[1048573:]}, maxLimit-1)
	bothWays(t, plainParts(all, 1000), 1000)
	bodies, _ := stream.Encode(all, maxLimit)
	for _, limit := range []int{64, maxLimit - 1} {
		if recs, e := stream.Decode(bodies, limit); e != api.ErrChunk || len(recs) != 0 {
			t.Errorf("P8.3: bodies of the greatest limit, read with %d: %d records, %d", limit, len(recs), e)
		}
	}
}

// spread is a row whose stamps lie as far apart as they can, at most by a factor.
func spread(row []api.Rec, factor int) []api.Rec {
	if len(row) == 0 {
		return row
	}
	last := row[len(row)-1].Stamp
	factor = min(factor, (maxEvents-1)/max(last, 1))
	for k := range row {
		row[k].Stamp *= factor
	}
	return row
}

// someStream is a stream of up to n records, of short and of long ones.
func someStream(pick *rand.Rand, n int) []api.Rec {
	return spread(samples.Row(pick.Intn, pick.Intn(n+1)), []int{1, 60, 300, 20000}[pick.Intn(4)])
}

func someLimit(pick *rand.Rand) int {
	return 64 + pick.Intn([]int{1, 3, 80, 1000}[pick.Intn(4)])
}

func TestManyStreams(t *testing.T) {
	pick := rand.New(rand.NewSource(81))
	for range 3000 {
		recs, limit := someStream(pick, 200), someLimit(pick)
		sameEncode(t, recs, limit)
		bothWays(t, plainParts(recs, limit), limit)
	}
}

// TestAnyRecords: records that may be and records that may not, in any mixture.
func TestAnyRecords(t *testing.T) {
	pick := rand.New(rand.NewSource(82))
	seen := samples.Seen{}
	for range 30000 {
		recs, limit := someStream(pick, 40), someLimit(pick)
		for range pick.Intn(3) {
			if len(recs) > 0 {
				spoilRec(pick, recs)
			}
		}
		seen[sameEncode(t, recs, limit)]++
	}
	if rare := seen.Rare(api.OK, api.ErrKind, api.ErrStamp, api.ErrRec, api.ErrOrder); rare != nil {
		t.Errorf("the errors %v come too seldom: %v", rare, seen)
	}
}

// spoilRec makes a field of some record such that it may not be, or exchanges two stamps.
func spoilRec(pick *rand.Rand, recs []api.Rec) {
	r := &recs[pick.Intn(len(recs))]
	wild := []int{math.MinInt, -1, maxEvents, math.MaxInt}[pick.Intn(4)]
	switch pick.Intn(5) {
	case 0:
		r.Kind = wild
	case 1:
		r.Stamp = wild
	case 2:
		r.Stack = wild
	default:
		s := &recs[pick.Intn(len(recs))]
		r.Stamp, s.Stamp = s.Stamp, max(0, r.Stamp-pick.Intn(2))
	}
}

// TestEverySmallBody: all bodies of a few bytes, alone and two by two.
func TestEverySmallBody(t *testing.T) {
	of := []byte{0, 1, 2, 22, 54, 128, 150}
	for _, b := range samples.AllBodies(6, of...) {
		sameChunk(t, b)
	}
	seen := samples.Seen{}
	pairs := samples.AllBodies(3, of...)
	for _, b := range pairs {
		seen[sameDecode(t, [][]byte{b}, 64)]++
		for _, c := range pairs {
			seen[sameDecode(t, [][]byte{b, c}, 64)]++
		}
	}
	if rare := seen.Rare(api.OK, api.ErrEnd, api.ErrLong, api.ErrKind, api.ErrRec, api.ErrForm, api.ErrChunk, api.ErrOrder); rare != nil {
		t.Errorf("the errors %v come too seldom: %v", rare, seen)
	}
}

// damage changes good bodies in one of many ways.
func damage(pick *rand.Rand, bodies [][]byte) [][]byte {
	k := pick.Intn(len(bodies))
	switch pick.Intn(12) {
	case 0: // two become one
		if k+1 < len(bodies) {
			bodies[k] = slices.Concat(bodies[k], bodies[k+1])
			bodies = slices.Delete(bodies, k+1, k+2)
		}
		return bodies
	case 1: // two are exchanged
		other := pick.Intn(len(bodies))
		bodies[k], bodies[other] = bodies[other], bodies[k]
		return bodies
	case 2:
		return slices.Insert(bodies, k, nil)
	}
	return samples.Damage(pick.Intn, bodies)
}

func TestDamagedBodies(t *testing.T) {
	pick := rand.New(rand.NewSource(83))
	seen := samples.Seen{}
	for range 30000 {
		recs, limit := someStream(pick, 40), 64+pick.Intn(4)
		bodies := plainBodies(recs, limit)
		if len(bodies) == 0 {
			continue
		}
		bodies = damage(pick, bodies)
		seen[sameDecode(t, bodies, limit+pick.Intn(2))]++
		for _, body := range bodies {
			sameChunk(t, body)
		}
	}
	if rare := seen.Rare(api.OK, api.ErrEnd, api.ErrLong, api.ErrOver, api.ErrForm, api.ErrChunk, api.ErrKind, api.ErrStamp, api.ErrRec, api.ErrOrder); rare != nil {
		t.Errorf("the errors %v come too seldom: %v", rare, seen)
	}
}

// TestOneRowOfBodies cuts a stream in every way there is, each part told anew: one row of bodies alone is read.
func TestOneRowOfBodies(t *testing.T) {
	pick := rand.New(rand.NewSource(84))
	for _, limit := range []int{64, 65, 70, 100, 1000} {
		recs := samples.Row(pick.Intn, 11)
		read := 0
		for cuts := range 1 << (len(recs) - 1) {
			var bodies [][]byte
			from := 0
			for k := 1; k <= len(recs); k++ {
				if k == len(recs) || cuts>>(k-1)&1 == 1 {
					bodies = append(bodies, text(recs[from:k]))
					from = k
				}
			}
			switch got, e := stream.Decode(bodies, limit); {
			case e == api.OK && slices.Equal(got, recs):
				read++
			case e != api.ErrChunk || len(got) != 0:
				t.Fatalf("P8.3: a stream cut otherwise: %v, %d", got, e)
			}
		}
		if read != 1 {
			t.Errorf("P8.6: for the limit %d there are %d rows of bodies of one stream", limit, read)
		}
	}
}

// TestCutInsideRecords: a body that is cut anywhere is read up to a record's end, or not at all.
func TestCutInsideRecords(t *testing.T) {
	recs := []api.Rec{mark(5), rec(9, 1, 1000, 8, 5), rec(10, 2, 1000, 8, 5), rec(300, 18, 1<<63, 0, 0), mark(301)}
	ends := map[int]int{}
	for n := range len(recs) + 1 {
		ends[len(text(recs[:n]))] = n
	}
	whole := text(recs)
	for cut := range len(whole) + 1 {
		got, e := stream.Chunk(whole[:cut])
		n, ok := ends[cut]
		switch {
		case cut == 0 && e != api.ErrForm, !ok && e != api.ErrEnd, cut > 0 && ok && e != api.OK:
			t.Errorf("P8.2: %d bytes of %d: %d", cut, len(whole), e)
		case !slices.Equal(got, recs[:n]):
			t.Errorf("P8.2: %d bytes of %d: %v", cut, len(whole), got)
		}
	}
}
