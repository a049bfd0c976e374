package recorder_test

import (
	"bytes"
	"math"
	"math/rand"
	"slices"
	"strings"
	"testing"

	"hindsight/api"
	"hindsight/frame"
	"hindsight/recorder"
	"hindsight/samples"
)

// TestExamples: the chapter's examples 1 to 3, 6 and 7.
func TestExamples(t *testing.T) {
	two := load(t, nil, 1000)
	two.record(64)
	head, _ := frame.Encode(api.Frame{Kind: 1, Body: []byte{1, 64, 0, 0, 0, 0}})
	if b := two.tape.Bytes(); len(b) != 26 || !bytes.Equal(b, head) || len(two.tape.Durable()) != 0 {
		t.Errorf("P14.6: Bytes are %v, %d of them last", b, len(two.tape.Durable()))
	}
	two.emit(mark(0))
	if two.rec.Held() != 1 || two.rec.Len() != 1 || len(two.tape.Bytes()) != 26 {
		t.Errorf("P14.8: Held %d, Len %d", two.rec.Held(), two.rec.Len())
	}
	two.flush()
	first, _ := frame.Encode(api.Frame{Kind: 4, Ord: 1, Body: []byte{0, 0, 22, 0}})
	b := two.tape.Bytes()
	if len(b) != 50 || !bytes.Equal(b[26:], first) {
		t.Errorf("P14.9: Bytes are %v", b)
	}
	for _, c := range []struct{ size, events, taken int }{{50, 1, 50}, {49, 0, 26}, {26, 0, 26}, {25, 0, 0}, {0, 0, 0}} {
		if got, n := recovered(t, b[:c.size]); len(got) != c.events || n != c.taken {
			t.Errorf("P14.5: Recover of %d bytes: %d events, %d bytes", c.size, len(got), n)
		}
	}
	stacked := api.Event{G: 300, Kind: api.Mark, Stack: []string{"f", "main"}}
	two.emit(stacked)
	two.flush()
	two.hold("P14.9")
	var want []byte
	for k, body := range []string{"\x00\x04main\x01f", "\x01\x00\x00\x00\x01", "\x01\xac\x02\x96\x00\x04"} {
		f, _ := frame.Encode(api.Frame{Kind: 2 + k, Ord: 2 + k, Body: []byte(body)})
		want = append(want, f...)
	}
	if b := two.tape.Bytes(); !bytes.Equal(b[50:], want) {
		t.Errorf("P14.9: behind 50 bytes lie %v, want %v", b[50:], want)
	}
	whole := two.tape.Bytes()
	two.crash(10, -1)
	if got := two.tape.Durable(); !bytes.Equal(got, head[:10]) {
		t.Errorf("P14.4: %v last", got)
	}
	if got, n := recovered(t, two.tape.Durable()); len(got) != 0 || n != 0 {
		t.Errorf("P14.5: %d events, %d bytes", len(got), n)
	}
	if e := two.record(64); e != api.ErrSpoilt {
		t.Errorf("P14.6: New = %d", e)
	}
	if e := load(t, nil, 1000).record(64); e != api.OK {
		t.Errorf("P14.6: New = %d", e)
	}
	two = load(t, whole, 1000)
	two.record(64)
	two.emit(mark(7))
	two.flush()
	two.crash(len(two.plain.unsynced()), 100)
	if got, n := recovered(t, two.tape.Durable()); n != len(whole) || !sameEvents(got, []api.Event{mark(0), stacked}) {
		t.Errorf("P14.12: %v, %d bytes", got, n)
	}
}

// TestFullExample: the examples 4 and 5.
func TestFullExample(t *testing.T) {
	two := load(t, nil, 50)
	two.record(64)
	two.emit(mark(0))
	two.flush()
	for n := 1; n <= 12; n++ { // 1 + 3 * 11 bytes are not more than 34
		if e := two.emit(mark(0)); e != api.OK {
			t.Fatalf("P14.8: the Emit %d = %d", n, e)
		}
		if e := two.flush(); e != api.ErrTape || two.rec.Held() != n {
			t.Fatalf("P14.9: Flush = %d, Held %d", e, two.rec.Held())
		}
		if e := two.sync(); e != api.ErrTape || two.rec.Held() != n {
			t.Fatalf("P14.9: Sync = %d, Held %d", e, two.rec.Held())
		}
	}
	for range 3 {
		if e := two.emit(mark(0)); e != api.ErrTape || two.rec.Held() != 12 || two.rec.Len() != 13 {
			t.Fatalf("P14.8: Emit = %d, Held %d, Len %d", e, two.rec.Held(), two.rec.Len())
		}
	}
	// The room is not asked for more than once: what is held can be written when there is some.
	two = load(t, nil, 26+20+1+36)
	two.record(64)
	for range 12 {
		two.emit(mark(0))
	}
	if e := two.emit(mark(0)); e != api.OK || two.rec.Held() != 1 || len(two.tape.Bytes()) != 83 {
		t.Errorf("P14.8: Emit = %d, Held %d", e, two.rec.Held())
	}
}

func TestWrongNew(t *testing.T) {
	limits := []int{63, 0, 1, -1, -64, 1048577, 1 << 21, math.MaxInt, math.MinInt}
	good := taped(t, 64, marks(3)...)
	for _, limit := range append(limits, 64, 1048576) {
		if r, e := recorder.New(nil, limit); r != nil || e != api.ErrNil {
			t.Errorf("P14.6: New(nil, %d) = %v, %d", limit, r, e)
		}
	}
	for _, limit := range limits {
		// Other errors are due as well: there is no room, or no recording.
		for _, b := range [][]byte{nil, good, {1}, good[:40]} {
			for _, most := range []int{len(b), 1000} {
				two := load(t, b, most)
				if e := two.record(limit); e != api.ErrArg || len(two.tape.Bytes()) != len(b) {
					t.Errorf("P14.6: New on %d bytes, limit %d: %d", len(b), limit, e)
				}
			}
		}
	}
	for most := range 30 {
		for limit, size := range map[int]int{64: 26, 127: 26, 128: 27, 16383: 27, 16384: 28, 1048576: 28} {
			two := load(t, nil, most)
			want := api.OK
			if most < size {
				want = api.ErrTape
			}
			if e := two.record(limit); e != want || e == api.OK && len(two.tape.Bytes()) != size || e != api.OK && len(two.tape.Bytes()) != 0 {
				t.Errorf("P14.6: New(a tape of %d, %d) = %d, %d bytes", most, limit, e, len(two.tape.Bytes()))
			}
		}
	}
}

// TestSpoilt: tapes that hold no recording, or not just one, or one with another limit.
func TestSpoilt(t *testing.T) {
	good := taped(t, 100, samples.Events(rand.New(rand.NewSource(1)).Intn, 20, 3)...)
	two := load(t, good, len(good)) // a full tape: nothing is written
	if e := two.record(100); e != api.OK || two.rec.Len() != 20 || two.rec.Held() != 0 || !bytes.Equal(two.tape.Bytes(), good) {
		t.Errorf("P14.6: New = %d", e)
	}
	for _, limit := range []int{64, 99, 101, 1048576} {
		two := load(t, good, 9000)
		if e := two.record(limit); e != api.ErrSpoilt || !bytes.Equal(two.tape.Bytes(), good) {
			t.Errorf("P14.6: New with the limit %d = %d", limit, e)
		}
	}
	for k := range good {
		_, n, _ := recorder.Recover(good[:k])
		want := api.ErrSpoilt
		if n == k {
			want = api.OK
		}
		if e := load(t, good[:k], 9000).record(100); e != want {
			t.Errorf("P14.6: New on %d bytes, of which %d are a recording: %d", k, n, e)
		}
		bad := slices.Clone(good)
		bad[k] ^= 16
		if e := load(t, bad, 9000).record(100); e != api.ErrSpoilt {
			t.Errorf("P14.6: New with a bit of the byte %d turned: %d", k, e)
		}
	}
	for _, more := range []string{"\x00", "\xa7", string(good), string(good[26:])} {
		if e := load(t, append(slices.Clone(good), more...), 99999).record(100); e != api.ErrSpoilt {
			t.Errorf("P14.6: New with %d bytes behind it: %d", len(more), e)
		}
	}
}

// TestBodyUnderWay: one of just limit less 30 bytes takes an event more, one of a byte more is flushed.
func TestBodyUnderWay(t *testing.T) {
	for _, ahead := range []int{0, 1, 127, 128} {
		for _, limit := range []int{64, 65, 66, 67, 96, 128, 129} {
			b := taped(t, limit, marks(ahead)...)
			for past := -3; past <= 3; past++ {
				two := load(t, b, 99999)
				two.record(limit)
				size := 1
				if ahead > 127 {
					size = 2
				}
				list := filling(limit - 30 + past - size)
				for _, e := range list {
					two.emit(e)
				}
				held := two.rec.Held()
				if held != len(list) {
					t.Fatalf("P14.8: it was flushed too soon: Held %d of %d", held, len(list))
				}
				two.emit(mark(0))
				if got := two.rec.Held(); past <= 0 && got != held+1 || past > 0 && got != 1 {
					t.Errorf("P14.8: %d bytes at the limit %d: Held %d behind %d", limit-30+past, limit, got, held)
				}
				if now := two.tape.Bytes(); (len(now) > len(b)) != (past > 0) {
					t.Errorf("P14.8: %d bytes at the limit %d: %d bytes behind %d", limit-30+past, limit, len(now), len(b))
				}
				two.sync()
			}
		}
	}
}

// filling are marks of so many bytes together, the longest one last, so that the body is not full too soon.
func filling(size int) []api.Event {
	list := marks(size/3 - 1)
	return append(list, mark([]int{0, 128, 16384}[size%3]))
}

// TestGreatestLimit: a body of MaxLimit less 30 bytes, and of one more.
func TestGreatestLimit(t *testing.T) {
	for past := range 2 {
		x, _ := recorder.NewTape(maxTape)
		r, _ := recorder.New(x, maxLimit)
		for _, e := range filling(maxLimit - 30 - 1 + past) {
			r.Emit(e)
		}
		n := r.Held()
		if e := r.Emit(mark(0)); e != api.OK || r.Len() != n+1 {
			t.Fatalf("P14.8: Emit = %d, Len %d", e, r.Len())
		}
		if flushed := r.Held() == 1; flushed != (past > 0) || flushed != (len(x.Bytes()) == 28+20+maxLimit-29) {
			t.Errorf("P14.8: MaxLimit less 30 and %d bytes: Held %d, %d bytes", past, r.Held(), len(x.Bytes()))
		}
		if e := r.Sync(); e != api.OK {
			t.Errorf("P14.9: Sync = %d", e)
		}
		if got, taken, e := recorder.Recover(x.Durable()); len(got) != n+1 || taken != len(x.Bytes()) || e != api.OK {
			t.Errorf("P14.11: Recover: %d events, %d bytes, %d", len(got), taken, e)
		}
	}
}

// TestLongestEvents: no body is longer than the limit, however long the last event is.
func TestLongestEvents(t *testing.T) {
	long := api.Event{G: maxG - 1, Kind: api.Mark, Obj: 1 << 63, Arg: math.MaxUint64}
	for _, limit := range []int{64, 65, 66, 100, 128, 129, 1000} {
		two := load(t, nil, 99999)
		two.record(limit)
		for k := range 40 {
			for range k % 5 {
				two.emit(mark(0))
			}
			e := long
			e.Obj *= uint64(1 + k%2) // far from the one ahead of it
			e.Stack = []string{strings.Repeat("a", k%3), "main"}
			two.emit(e)
		}
		two.sync()
		fs, _, _ := frame.Split(two.tape.Bytes())
		for _, f := range fs {
			if len(f.Body) > limit {
				t.Errorf("P14.8: a body of %d bytes at the limit %d", len(f.Body), limit)
			}
		}
	}
}

// TestEventsThatMayNotBe: they change nothing, whatever is held.
func TestEventsThatMayNotBe(t *testing.T) {
	long := strings.Repeat("x", maxSite+1)
	for _, c := range []struct {
		e    api.Event
		want api.Errno
	}{
		{api.Event{}, api.ErrKind},
		{api.Event{Kind: 23, G: -1}, api.ErrKind},
		{api.Event{Kind: -1}, api.ErrKind},
		{api.Event{Kind: 22, G: -1}, api.ErrG},
		{api.Event{Kind: 22, G: maxG}, api.ErrG},
		{api.Event{Kind: 1}, api.ErrSize},
		{api.Event{Kind: 7, Obj: 1, Arg: 1}, api.ErrObj},
		{api.Event{Kind: 1, Obj: math.MaxUint64, Arg: 2}, api.ErrObj},
		{api.Event{Kind: 22, Stack: make([]string, 17)}, api.ErrSite},
		{api.Event{Kind: 22, Stack: []string{long}}, api.ErrSite},
		{api.Event{Kind: 22, Stack: []string{"new", long, "main"}}, api.ErrSite},
	} {
		for _, most := range []int{26, 9999} {
			for held := range 14 {
				two := load(t, nil, most)
				two.record(64)
				for range held {
					two.emit(mark(0))
				}
				n, b := two.rec.Held(), two.tape.Bytes()
				if e := two.emit(c.e); e != c.want || two.rec.Held() != n || !bytes.Equal(two.tape.Bytes(), b) {
					t.Fatalf("P14.8: Emit with %d held = %d, want %d; Held %d", n, e, c.want, two.rec.Held())
				}
				two.emit(api.Event{Kind: 22, Stack: []string{"f", "main"}})
				two.sync() // the stack that was refused brought nothing
			}
		}
	}
}

// TestManyRecordings: whatever is emitted, flushed and synced, onto tapes with much room and with little.
func TestManyRecordings(t *testing.T) {
	r := rand.New(rand.NewSource(142))
	seen, begun := samples.Seen{}, samples.Seen{}
	for range 150 {
		most := []int{26 + r.Intn(40), 500 + r.Intn(2000), 99999}[r.Intn(3)]
		limit := samples.Limit(r.Intn)
		two := load(t, nil, most)
		e := two.record(limit)
		begun[e]++
		if e != api.OK {
			continue
		}
		for range 5 + r.Intn(60) {
			switch r.Intn(12) {
			case 0:
				seen[two.flush()]++
			case 1:
				seen[two.sync()]++
			case 2:
				e := samples.Event(r.Intn, 9)
				e.Kind += r.Intn(3) * 9
				seen[two.emit(e)]++
			case 3: // another one goes on where this one stops; what is held is lost
				begun[two.record(limit)]++
			case 4:
				two.fuse(r.Intn(5))
			default:
				seen[two.emit(samples.Event(r.Intn, 9))]++
			}
		}
		recovered(t, two.tape.Bytes())
	}
	if rare := seen.Rare(api.OK, api.ErrTape, api.ErrKind, api.ErrSize); len(rare) > 0 {
		t.Errorf("rare are %v", rare)
	}
	if begun[api.OK] == 0 || begun[api.ErrTape] == 0 {
		t.Errorf("begun were %v", begun)
	}
}

// TestOneAppend: a Flush is one act, and New is one; a Sync of a recorder without held events is one.
func TestOneAppend(t *testing.T) {
	for n := range 8 {
		two := load(t, nil, 9999)
		two.fuse(n)
		two.record(64)
		two.flush() // nothing is held: no act
		two.emit(api.Event{Kind: 22, Stack: []string{strings.Repeat("a", 70), strings.Repeat("b", 70), "main"}})
		two.flush() // five frames
		two.sync()
		two.sync()
		two.emit(mark(0))
		two.sync()
		want := []int{0, 0, 0, 1, 1, 1, 2, 2}[n]
		two.crash(0, -1)
		if got, _ := recovered(t, two.tape.Durable()); len(got) != want {
			t.Errorf("P14.9: %d events behind %d acts, want %d", len(got), n, want)
		}
	}
}
