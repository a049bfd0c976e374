package file_test

import (
	"bytes"
	"math/rand"
	"slices"
	"testing"

	"hindsight/api"
	"hindsight/file"
	"hindsight/samples"
)

func TestRecutToItsOwnLimit(t *testing.T) {
	for _, limit := range []int{64, 100, 1048576} {
		for _, trace := range [][]api.Event{nil, {mark(0)}, rich()} {
			b := record(t, trace, limit)
			if got, e := file.Recut(b, limit); e != api.OK || !bytes.Equal(got, b) {
				t.Errorf("P11.4: Recut of a file of %d events to its own limit %d is not the file: %d", len(trace), limit, e)
			}
		}
	}
}

// TestRecut: from every limit to every other one it is the file of that one.
func TestRecut(t *testing.T) {
	limits := []int{64, 65, 80, 127, 128, 4096, 1048575, 1048576}
	for _, trace := range [][]api.Event{nil, {mark(0)}, rich()} {
		for _, from := range limits {
			b := record(t, trace, from)
			for _, to := range limits {
				if got, e := file.Recut(b, to); e != api.OK || !bytes.Equal(got, record(t, trace, to)) {
					t.Errorf("P11.4: Recut of a file of %d events from the limit %d to %d: %d bytes, %d", len(trace), from, to, len(got), e)
				}
			}
		}
	}
}

func TestRecutFaults(t *testing.T) {
	good := record(t, rich(), 64)
	for _, limit := range wrongLimits() {
		for _, b := range [][]byte{nil, good, good[:9], {0}} { // the limit goes ahead of the file
			if got, e := file.Recut(b, limit); e != api.ErrArg || len(got) != 0 {
				t.Errorf("P11.4: Recut of %d bytes, for the limit %d = %d bytes, %d", len(b), limit, len(got), e)
			}
		}
	}
	for _, f := range allFaults() {
		for _, limit := range []int{64, 100, 1048576} {
			if got, e := file.Recut(faultyFile(rich(), 64, f), limit); e != f.want || len(got) != 0 {
				t.Errorf("P11.4: %s: Recut for the limit %d = %d bytes, %d, want %d", f.name, limit, len(got), e, f.want)
			}
		}
	}
}

func TestAppend(t *testing.T) {
	r := rand.New(rand.NewSource(117))
	traces := [][]api.Event{nil, {mark(0)}, {mark(0, "f", "main"), mark(3, "main")}, rich()[:40], rich()[30:]}
	for _, first := range traces {
		for _, second := range traces {
			for range 4 {
				limit, other := samples.Limit(r.Intn), samples.Limit(r.Intn)
				got, e := file.Append(record(t, first, limit), record(t, second, other))
				if want := record(t, slices.Concat(first, second), limit); e != api.OK || !bytes.Equal(got, want) {
					t.Errorf("P11.5: Append of files of %d and %d events, for the limits %d and %d: %d bytes, %d, want %d", len(first), len(second), limit, other, len(got), e, len(want))
				}
			}
		}
	}
}

func TestAppendNoEvents(t *testing.T) {
	for _, limit := range []int{64, 100, 1048576} {
		b, none := record(t, rich(), limit), record(t, nil, 200)
		if got, e := file.Append(b, none); e != api.OK || !bytes.Equal(got, b) {
			t.Errorf("P11.5: Append of a file and of that of no events is not the file: %d", e)
		}
		if got, e := file.Append(none, b); e != api.OK || !bytes.Equal(got, record(t, rich(), 200)) {
			t.Errorf("P11.5: Append of the file of no events and of a file: %d", e)
		}
	}
}

// TestAppendFaults: a damaged file on either side, and on both: then it is the first one's error.
func TestAppendFaults(t *testing.T) {
	good := record(t, rich(), 64)
	asks := func(what string, a, b []byte, want api.Errno) {
		t.Helper()
		if got, e := file.Append(a, b); e != want || len(got) != 0 {
			t.Errorf("P11.5: %s: Append = %d bytes, %d, want %d", what, len(got), e, want)
		}
	}
	asks("no bytes", nil, nil, api.ErrHead)
	asks("no bytes ahead", nil, good, api.ErrHead)
	asks("no bytes behind", good, nil, api.ErrHead)
	all := allFaults()
	for k, f := range all {
		bad := faultyFile(rich(), 64, f)
		asks(f.name+", ahead", bad, good, f.want)
		asks(f.name+", behind", good, bad, f.want)
		g := all[(k+37)%len(all)]
		asks(f.name+", and behind "+g.name, bad, faultyFile(rich(), 64, g), f.want)
	}
}

// TestAppendThrice: it makes no difference which two are put together first.
func TestAppendThrice(t *testing.T) {
	r := rand.New(rand.NewSource(118))
	put := func(a, b []byte) []byte {
		t.Helper()
		got, e := file.Append(a, b)
		if e != api.OK {
			t.Fatalf("P11.5: Append = %d", e)
		}
		return got
	}
	for range 100 {
		a, b, c := record(t, samples.Trace(r.Intn, 30), samples.Limit(r.Intn)), record(t, samples.Trace(r.Intn, 30), samples.Limit(r.Intn)), record(t, samples.Trace(r.Intn, 30), samples.Limit(r.Intn))
		if !bytes.Equal(put(put(a, b), c), put(a, put(b, c))) {
			t.Fatalf("P11.5: three files put together in two ways are not the same")
		}
	}
}
