package stream_test

import (
	"bytes"
	"math/rand"
	"slices"
	"testing"

	"hindsight/api"
	"hindsight/samples"
	"hindsight/stream"
)

func writer(t *testing.T, limit int) *stream.Writer {
	t.Helper()
	w, e := stream.New(limit)
	if w == nil || e != api.OK {
		t.Fatalf("P8.4: New(%d) = %v, %d", limit, w, e)
	}
	return w
}

// puts asks a writer to take a record, and holds what it answers against what it must.
func puts(t *testing.T, w *stream.Writer, r api.Rec, want []byte, wantE api.Errno, held int) {
	t.Helper()
	full, e := w.Put(r)
	if e != wantE || !bytes.Equal(full, want) || w.Held() != held {
		t.Fatalf("P8.4: Put(%v) = %v, %d, Held %d, want %v, %d, Held %d", r, full, e, w.Held(), want, wantE, held)
	}
}

// flushes holds a Flush against what it must answer.
func flushes(t *testing.T, w *stream.Writer, want []byte) {
	t.Helper()
	if body := w.Flush(); !bytes.Equal(body, want) || w.Held() != 0 {
		t.Fatalf("P8.4: Flush = %v, Held %d, want %v", body, w.Held(), want)
	}
}

func TestWriterExample(t *testing.T) {
	w := writer(t, 64)
	if w.Held() != 0 {
		t.Errorf("P8.4: a new writer holds %d records", w.Held())
	}
	for k := range 32 {
		puts(t, w, mark(k), nil, api.OK, k+1)
	}
	puts(t, w, mark(32), bytes.Repeat([]byte{22, 0}, 32), api.OK, 1)
	flushes(t, w, []byte{22, 32})
	flushes(t, w, nil)
	puts(t, w, mark(32), nil, api.ErrOrder, 0)
	puts(t, w, mark(33), nil, api.OK, 1)
	flushes(t, w, []byte{22, 33})
}

func TestNewLimits(t *testing.T) {
	for _, limit := range wrongLimits() {
		if w, e := stream.New(limit); w != nil || e != api.ErrArg {
			t.Errorf("P8.4: New(%d) = %v, %d", limit, w, e)
		}
	}
	for _, limit := range []int{minLimit, minLimit + 1, maxLimit - 1, maxLimit} {
		w := writer(t, limit)
		flushes(t, w, nil)
		puts(t, w, mark(0), nil, api.OK, 1)
	}
}

// TestNoWriter: a writer that is nil, and one that New did not make, which has room for no record.
func TestNoWriter(t *testing.T) {
	var none *stream.Writer
	for _, r := range []api.Rec{mark(0), {}, mark(-1)} {
		puts(t, none, r, nil, api.ErrNil, 0)
	}
	flushes(t, none, nil)
	var w stream.Writer
	puts(t, &w, mark(-1), nil, api.ErrStamp, 0)
	puts(t, &w, mark(0), nil, api.OK, 1)
	puts(t, &w, mark(0), nil, api.ErrOrder, 1)
	puts(t, &w, mark(1), []byte{22, 0}, api.OK, 1)
	flushes(t, &w, []byte{22, 1})
}

// TestRefused: a Put that is refused leaves all as it was: the body, how many records it has, the last
// stamp, and what the next record is told against.
func TestRefused(t *testing.T) {
	w := writer(t, 64)
	refuse := func(least, held int) {
		t.Helper()
		for _, c := range []struct {
			r api.Rec
			e api.Errno
		}{
			{rec(least, 0, 5, 5, 5), api.ErrKind},
			{rec(least-1, 23, 5, 5, -1), api.ErrKind},
			{rec(-1, 1, 5, 5, -1), api.ErrStamp},
			{rec(maxEvents, 1, 5, 5, 5), api.ErrStamp},
			{rec(least-1, 1, 5, 5, -1), api.ErrRec},
			{rec(least, 1, 5, 5, maxNodes+1), api.ErrRec},
			{rec(least-1, 1, 5, 5, 5), api.ErrOrder},
			{rec(0, 1, 5, 5, 5), api.ErrOrder},
		} {
			puts(t, w, c.r, nil, c.e, held)
		}
	}
	puts(t, w, rec(3, 1, 1000, 8, 5), nil, api.OK, 1)
	refuse(4, 1)
	puts(t, w, rec(4, 2, 1000, 8, 5), nil, api.OK, 2)
	refuse(5, 2)
	flushes(t, w, []byte{225, 3, 208, 15, 8, 10, 66, 0, 8})
	refuse(5, 0)
	flushes(t, w, nil)
	refuse(5, 0)
	for k := range 32 {
		puts(t, w, mark(5+k), nil, api.OK, k+1)
	}
	refuse(37, 32) // the body is full: a record that is refused does not bring it out
	full := append([]byte{22, 5}, bytes.Repeat([]byte{22, 0}, 31)...)
	puts(t, w, mark(40), full, api.OK, 1)
	refuse(41, 1)
	flushes(t, w, []byte{22, 40})
}

// TestLastStamp: behind the greatest stamp no record comes any more.
func TestLastStamp(t *testing.T) {
	w := writer(t, 64)
	puts(t, w, mark(maxEvents), nil, api.ErrStamp, 0)
	puts(t, w, mark(maxEvents-1), nil, api.OK, 1)
	for range 2 {
		puts(t, w, mark(maxEvents), nil, api.ErrStamp, w.Held())
		puts(t, w, mark(maxEvents-1), nil, api.ErrOrder, w.Held())
		puts(t, w, mark(0), nil, api.ErrOrder, w.Held())
		w.Flush()
	}
}

// allBodies puts records into a writer, and answers its bodies, with those of a Flush ahead of the
// records whose places a function names.
func allBodies(t *testing.T, recs []api.Rec, limit int, ahead func(k int) bool) [][]byte {
	t.Helper()
	w := writer(t, limit)
	var bodies [][]byte
	take := func(body []byte) {
		if len(body) > 0 {
			bodies = append(bodies, body)
		}
	}
	for k, r := range recs {
		if ahead(k) {
			take(w.Flush())
		}
		full, e := w.Put(r)
		if e != api.OK {
			t.Fatalf("P8.4: Put(%v) = %d", r, e)
		}
		take(full)
	}
	take(w.Flush())
	return bodies
}

// TestWriterAndEncode: the bodies of a writer that is flushed at the end are those of Encode.
func TestWriterAndEncode(t *testing.T) {
	pick := rand.New(rand.NewSource(85))
	never := func(int) bool { return false }
	for range 1000 {
		recs, limit := someStream(pick, 200), someLimit(pick)
		want, e := stream.Encode(recs, limit)
		if got := allBodies(t, recs, limit, never); e != api.OK || !sameBodies(got, want) {
			t.Fatalf("P8.5: the bodies of a writer, for %d records and the limit %d, are not those of Encode", len(recs), limit)
		}
	}
	all := marks(0, maxEvents)
	want, e := stream.Encode(all, maxLimit)
	if got := allBodies(t, all, maxLimit, never); e != api.OK || !sameBodies(got, want) || len(want) != 3 {
		t.Errorf("P8.5: the bodies of a writer of all stamps are not those of Encode")
	}
}

// TestFlushAhead: with a Flush anywhere each body is read alone, and all together are all records.
func TestFlushAhead(t *testing.T) {
	pick := rand.New(rand.NewSource(86))
	for range 1000 {
		recs, limit := someStream(pick, 200), someLimit(pick)
		often := 1 + pick.Intn(20)
		var got []api.Rec
		for _, body := range allBodies(t, recs, limit, func(int) bool { return pick.Intn(often) == 0 }) {
			part, e := stream.Chunk(body)
			if e != api.OK || len(body) > limit {
				t.Fatalf("P8.5: a body of %d bytes, for the limit %d: Chunk = %d", len(body), limit, e)
			}
			got = append(got, part...)
		}
		if !slices.Equal(got, recs) {
			t.Fatalf("P8.5: the bodies of a writer that is flushed: %d records, want %d", len(got), len(recs))
		}
	}
}

// TestWriterSteps: calls of any sort, one behind the other, held against the plain writer.
func TestWriterSteps(t *testing.T) {
	pick := rand.New(rand.NewSource(87))
	seen := samples.Seen{}
	for range 2000 {
		limit := someLimit(pick)
		w, plain := writer(t, limit), plainWriter{limit: limit}
		recs := someStream(pick, 150)
		for range pick.Intn(6) {
			if len(recs) > 0 {
				spoilRec(pick, recs)
			}
		}
		for _, r := range recs {
			want, wantE := plain.put(r)
			puts(t, w, r, want, wantE, len(plain.held()))
			seen[wantE]++
			for pick.Intn(30) == 0 {
				flushes(t, w, plain.flush())
			}
		}
		flushes(t, w, plain.flush())
	}
	if rare := seen.Rare(api.OK, api.ErrKind, api.ErrStamp, api.ErrRec, api.ErrOrder); rare != nil {
		t.Errorf("the errors %v come too seldom: %v", rare, seen)
	}
}

// TestWritersApart: what is put into one writer is in no other one.
func TestWritersApart(t *testing.T) {
	a, b := writer(t, 64), writer(t, 64)
	puts(t, a, rec(3, 1, 1000, 8, 5), nil, api.OK, 1)
	puts(t, b, mark(0), nil, api.OK, 1)
	puts(t, a, rec(4, 2, 1000, 8, 5), nil, api.OK, 2)
	flushes(t, b, []byte{22, 0})
	puts(t, b, mark(1), nil, api.OK, 1)
	flushes(t, a, []byte{225, 3, 208, 15, 8, 10, 66, 0, 8})
	flushes(t, b, []byte{22, 1})
}
