package stream_test

import (
	"bytes"
	"slices"
	"testing"

	"hindsight/api"
	"hindsight/samples"
	"hindsight/stream"
)

// four are records that go into four bodies for the limit 64.
func four() []api.Rec {
	var recs []api.Rec
	for k := range 12 {
		recs = append(recs, rec(k*9, 1+k, uint64(k%3)<<60, 1<<21, k%2*70))
	}
	return recs
}

func TestFour(t *testing.T) {
	if n := len(plainBodies(four(), 64)); n != 4 {
		t.Errorf("the test's own records have %d bodies", n)
	}
}

func TestEncodeLeavesItsRecords(t *testing.T) {
	room := append(four(), rec(999, 9, 9, 9, 9), rec(0, -1, 0, 0, 0))
	want := slices.Clone(room)
	for n := range len(room) + 1 {
		sameEncode(t, room[:n], 64)
	}
	if !slices.Equal(room, want) {
		t.Errorf("P8.7: Encode changed its records, or the room behind them: %v", room)
	}
}

func TestDecodeLeavesItsBodies(t *testing.T) {
	good := plainBodies(four(), 64)
	for _, bodies := range [][][]byte{good, good[:2], good[1:], {good[0]}, {{22, 0}, {22, 1}}, {{22, 0}, {22, 0}}, {{22, 0, 22}}, {{}}} {
		lists, whole := samples.Roomy(bodies)
		_, want := samples.Roomy(bodies)
		outer := append(lists, []byte("behind"))
		stream.Decode(outer[:len(lists)], 64)
		for _, body := range lists {
			stream.Chunk(body)
		}
		if !sameBodies(whole, want) {
			t.Errorf("P8.7: a body was changed, or the room behind it")
		}
		if !sameBodies(outer, append(slices.Clone(bodies), []byte("behind"))) {
			t.Errorf("P8.7: Decode changed the list of bodies, or the room behind it")
		}
	}
}

// TestNothingKept: what was handed in changes behind the call, and the answers stand.
func TestNothingKept(t *testing.T) {
	recs := four()
	bodies, _ := stream.Encode(recs, 64)
	samples.Spoil(recs, api.Rec{})
	if !sameBodies(bodies, plainBodies(four(), 64)) {
		t.Errorf("P8.7: Encode kept its records")
	}
	lists, whole := samples.Roomy(bodies)
	read, e := stream.Decode(lists, 64)
	part, f := stream.Chunk(lists[1])
	for _, w := range whole {
		samples.Spoil(w, 99)
	}
	samples.Spoil(lists, nil)
	if e != api.OK || !slices.Equal(read, four()) {
		t.Errorf("P8.7: Decode kept its bodies: %v, %d", read, e)
	}
	if f != api.OK || !slices.Equal(part, plainParts(four(), 64)[1]) {
		t.Errorf("P8.7: Chunk kept its body: %v, %d", part, f)
	}
}

// TestEncodedIsNew writes over one body after the other, with the room behind it.
func TestEncodedIsNew(t *testing.T) {
	for _, limit := range []int{64, 70, 1000} {
		want := plainBodies(four(), limit)
		one, _ := stream.Encode(four(), limit)
		other, _ := stream.Encode(four(), limit)
		for k := range one {
			if !sameBodies(one[k:], want[k:]) {
				t.Errorf("P8.7: a body from %d on shares memory with one ahead of it", k)
			}
			samples.Spoil(one[k], 99)
		}
		samples.Spoil(one, nil)
		if !sameBodies(other, want) {
			t.Errorf("P8.7: two answers of Encode share memory")
		}
	}
}

func TestReadIsNew(t *testing.T) {
	bodies := plainBodies(four(), 64)
	one, _ := stream.Decode(bodies, 64)
	other, _ := stream.Decode(bodies, 64)
	part, _ := stream.Chunk(bodies[0])
	again, _ := stream.Chunk(bodies[0])
	samples.Spoil(one, api.Rec{})
	samples.Spoil(part, api.Rec{})
	if !slices.Equal(other, four()) || !slices.Equal(again, plainParts(four(), 64)[0]) {
		t.Errorf("P8.7: two answers share memory: %v, %v", other, again)
	}
	if !sameBodies(bodies, plainBodies(four(), 64)) {
		t.Errorf("P8.7: an answer shares memory with the bodies")
	}
}

// TestHandedOut: bodies of a writer, of Put and of Flush, are written over with all their room and
// appended to, while the writer goes on.
func TestHandedOut(t *testing.T) {
	w, plain := writer(t, 64), plainWriter{limit: 64}
	var kept, want [][]byte
	for k := range 300 {
		for _, body := range kept {
			samples.Spoil(body, 99)
			_ = append(body, bytes.Repeat([]byte{77}, 100)...)
		}
		kept, want = nil, nil
		r := rec(k, 1+k%22, uint64(k%5)<<k%64, uint64(k%7), k%3)
		wanted, _ := plain.put(r)
		full, e := w.Put(r)
		kept, want = append(kept, full), append(want, wanted)
		if k%50 == 49 {
			kept, want = append(kept, w.Flush()), append(want, plain.flush())
		}
		if e != api.OK || !sameBodies(kept, want) {
			t.Fatalf("P8.7: at the record %d: %v, %d, want %v", k, kept, e, want)
		}
		for _, body := range kept {
			if cap(body) != len(body) {
				t.Errorf("P8.7: a body of %d bytes is handed out with room for %d", len(body), cap(body))
			}
		}
	}
}

// TestAppendedTo: what is appended to a body is seen neither in a later one nor in an earlier one.
func TestAppendedTo(t *testing.T) {
	w := writer(t, 64)
	var bodies, longer [][]byte
	for _, r := range four() {
		if full, _ := w.Put(r); len(full) > 0 {
			bodies, longer = append(bodies, full), append(longer, append(full, bytes.Repeat([]byte{77}, 64)...))
		}
	}
	last := w.Flush()
	bodies, longer = append(bodies, last), append(longer, append(last, 77))
	if !sameBodies(bodies, plainBodies(four(), 64)) {
		t.Errorf("P8.7: something was appended to a body, and the bodies are %v", bodies)
	}
	for k, l := range longer {
		if !bytes.HasPrefix(l, bodies[k]) || l[len(l)-1] != 77 {
			t.Errorf("P8.7: what was appended to the body %d is gone: %v", k, l)
		}
	}
}
