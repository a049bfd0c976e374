package file_test

import (
	"math/rand"
	"slices"
	"testing"

	"hindsight/api"
	"hindsight/file"
	"hindsight/samples"
)

// noHead holds what Peek answers of bytes that begin with no head.
func noHead(t *testing.T, what string, b []byte, fault api.Errno) {
	t.Helper()
	if h, e := file.Peek(b); h != (api.Head{}) || e != fault {
		t.Errorf("P11.3: %s: Peek = %v, %d, want %d", what, h, e, fault)
	}
}

func TestPeek(t *testing.T) {
	for _, x := range []struct {
		trace []api.Event
		want  api.Head
	}{
		{nil, api.Head{Limit: 64}},
		{[]api.Event{mark(0)}, api.Head{Limit: 64, Events: 1, Streams: 1}},
		{[]api.Event{mark(0, "f", "main"), mark(7, "g", "f", "main"), mark(0, "main"), mark(9)}, api.Head{Limit: 64, Events: 4, Streams: 3, Strings: 3, Nodes: 3}},
	} {
		for _, limit := range []int{64, 65, 1048576} {
			x.want.Limit = limit
			if h, e := file.Peek(record(t, x.trace, limit)); h != x.want || e != api.OK {
				t.Errorf("P11.3: Peek of a file of %d events = %v, %d, want %v", len(x.trace), h, e, x.want)
			}
		}
	}
}

// TestPeekBehind: what lies behind the head is not looked at, however much it is.
func TestPeekBehind(t *testing.T) {
	r := rand.New(rand.NewSource(116))
	b := record(t, rich(), 64)
	size := len(parts(t, b)[0])
	want, e := file.Peek(b)
	if e != api.OK {
		t.Fatalf("P11.3: Peek = %d", e)
	}
	some := make([]byte, 500)
	r.Read(some)
	for _, more := range [][]byte{nil, {0}, {167}, b, some, make([]byte, maxFile), b[:size]} {
		if h, e := file.Peek(slices.Concat(b[:size], more)); h != want || e != api.OK {
			t.Errorf("P11.3: Peek of a head with %d bytes behind it = %v, %d, want %v", len(more), h, e, want)
		}
	}
	for k := range len(b) {
		switch h, e := file.Peek(b[:k]); {
		case k < size && (h != api.Head{} || e != api.ErrEnd), k >= size && (h != want || e != api.OK):
			t.Errorf("P11.3: Peek of the first %d bytes = %v, %d", k, h, e)
		}
	}
	for k := 8 * size; k < 8*len(b); k++ {
		b[k/8] ^= 1 << (k % 8)
		if h, e := file.Peek(b); h != want || e != api.OK {
			t.Fatalf("P11.3: Peek of a file that is damaged behind its head = %v, %d", h, e)
		}
		b[k/8] ^= 1 << (k % 8)
	}
}

func TestPeekFaults(t *testing.T) {
	good := []byte{1, 64, 0, 0, 0, 0}
	bad := []byte{2, 64, 0, 0, 0, 0}
	noHead(t, "no bytes", nil, api.ErrEnd)
	noHead(t, "no bytes", []byte{}, api.ErrEnd)
	noHead(t, "no frame", []byte{0, 1, 2}, api.ErrMagic)
	noHead(t, "a top alone", top(1, 0), api.ErrEnd)
	noHead(t, "a top of no kind", top(0, 0), api.ErrField)
	noHead(t, "a top of a frame that is too long", top(1, 2097153), api.ErrBody)
	for _, body := range [][]byte{good, bad} { // where the frame is none of a head, its body is not looked at
		for _, f := range []api.Frame{{Kind: 2}, {Kind: 4}, {Kind: 5}, {Kind: 255}, {Kind: 1, Stream: 1}, {Kind: 1, Stream: 65535}, {Kind: 1, Ord: 1}, {Kind: 1, Ord: 1<<32 - 1}, {Kind: 2, Stream: 1, Ord: 1}} {
			f.Body = body
			noHead(t, "a frame that is no head", samples.Joined([]api.Frame{f}), api.ErrHead)
		}
	}
	for _, x := range []struct {
		body  []byte
		fault api.Errno
	}{
		{nil, api.ErrEnd},
		{[]byte{1}, api.ErrEnd},
		{bad, api.ErrField},
		{[]byte{1, 63, 0, 0, 0, 0}, api.ErrField},
		{[]byte{1, 64, 0, 0, 0}, api.ErrEnd},
		{[]byte{1, 64, 0, 0, 0, 0, 0}, api.ErrBody},
		{[]byte{1, 192, 0, 0, 0, 0, 0}, api.ErrLong},
	} {
		noHead(t, "a head that may not be", samples.Joined([]api.Frame{{Kind: 1, Body: x.body}}), x.fault)
	}
	b := samples.Joined([]api.Frame{{Kind: 1, Body: good}})
	for k := range 8 * len(b) {
		b[k/8] ^= 1 << (k % 8)
		peeks(t, b)
		if _, e := file.Peek(b); e == api.OK {
			t.Errorf("P11.3: Peek of a head with the bit %d turned: OK", k)
		}
		b[k/8] ^= 1 << (k % 8)
	}
}

// TestPeekTellsWhatIsTold: the head's word is taken for it, also of a file that is none.
func TestPeekTellsWhatIsTold(t *testing.T) {
	for _, f := range allFaults() {
		peeks(t, faultyFile(rich(), 64, f))
	}
	fs := head(func(h *api.Head) { h.Events, h.Strings = 77, 5 })(drafted([]api.Event{mark(0)}, 64).frames())
	if h, e := file.Peek(samples.Sealed(fs)); h != (api.Head{Limit: 64, Events: 77, Streams: 1, Strings: 5}) || e != api.OK {
		t.Errorf("P11.3: Peek = %v, %d", h, e)
	}
}
