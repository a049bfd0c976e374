package file_test

import (
	"slices"
	"testing"

	"hindsight/api"
	"hindsight/samples"
)

func TestLoadExamples(t *testing.T) {
	refused(t, "P11.2: no bytes", nil, api.ErrHead)
	refused(t, "P11.2: no bytes", []byte{}, api.ErrHead)
	for _, trace := range [][]api.Event{nil, {mark(0)}, rich()} {
		b := record(t, trace, 64)
		first := split(t, b)[0]
		refused(t, "P11.2: the head alone", b[:20+len(first.Body)], api.ErrFoot)
		refused(t, "P11.2: a byte less", b[:len(b)-1], api.ErrEnd)
		refused(t, "P11.2: a byte 0 behind", append(slices.Clip(b), 0), api.ErrMagic)
	}

	d := drafted([]api.Event{mark(0)}, 64)
	fs := head(func(h *api.Head) { h.Events++ })(d.frames())
	refused(t, "P11.2: an event more is told", samples.Sealed(fs), api.ErrTotal)

	d = drafted([]api.Event{mark(0, "a")}, 64)
	d.texts = append(d.texts, "b")
	refused(t, "P11.2: a string that no stack has", samples.Sealed(d.frames()), api.ErrForm2)
}

// TestNoFault: the way in which the test makes its files makes good ones, if no fault is put in.
func TestNoFault(t *testing.T) {
	for _, limit := range []int{64, 100, maxLimit} {
		loads(t, "P11.2", faultyFile(rich(), limit), rich(), api.OK)
	}
}

// TestFaults: each fault alone.
func TestFaults(t *testing.T) {
	steps := map[int]int{}
	for _, f := range allFaults() {
		b := faultyFile(rich(), 64, f)
		refused(t, "P11.2: "+f.name, b, f.want)
		if _, e := plainLoad(b); e != f.want {
			t.Errorf("the plain reading of %s: %d, want %d", f.name, e, f.want)
		}
		steps[f.step]++
	}
	for _, step := range []int{20, 30, 40, 45, 50, 53, 56, 60, 70, 75, 80, 85, 90, 95, 100, 105, 110, 115, 120} {
		if steps[step] == 0 {
			t.Errorf("the test has no fault of the step %d", step)
		}
	}
}

// TestTwoFaults: of two faults in one file that of the lesser step is told.
func TestTwoFaults(t *testing.T) {
	all := allFaults()
	for _, a := range all {
		for _, b := range all {
			if a.step < b.step {
				// The one of the later step is put in first: it looks for its frames by their kinds.
				refused(t, "P11.2: "+a.name+", and "+b.name, faultyFile(rich(), 64, b, a), a.want)
			}
		}
	}
}

// TestFaultsOfOneStep: of two faults of one step the one that comes first in the file is told.
func TestFaultsOfOneStep(t *testing.T) {
	for _, x := range []struct {
		what  string
		edits []func(fs []api.Frame) []api.Frame
		want  api.Errno
	}{
		{"strings", []func(fs []api.Frame) []api.Frame{instead(2, 0), behindLast(2, 2, 97)}, api.ErrForm},
		{"nodes", []func(fs []api.Frame) []api.Frame{instead(3, 1, 5, 0), behindLast(3, 0)}, api.ErrNode},
		{"streams", []func(fs []api.Frame) []api.Frame{instead(4, 0, 0), behindLast(4, 22)}, api.ErrKind},
		{"streams", []func(fs []api.Frame) []api.Frame{instead(4, 22), behindLast(4, 0, 0)}, api.ErrEnd},
		{"heads", []func(fs []api.Frame) []api.Frame{instead(1, 1, 63, 128, 0, 0, 0, 0)}, api.ErrField},
	} {
		fs := drafted(rich(), 64).frames()
		for _, edit := range x.edits {
			fs = edit(fs)
		}
		refused(t, "P11.2: two faults of "+x.what, samples.Sealed(fs), x.want)
	}
	d := drafted(rich(), 64)
	d.each(func(g int, r *api.Rec) {
		switch r.Stamp {
		case 10:
			r.Kind, r.Obj, r.Arg = api.Fork, 1, 1
		case 11:
			r.Kind, r.Obj, r.Arg = api.Read, 1, 0
		}
	})
	refused(t, "P11.2: two events that may not be", samples.Sealed(d.frames()), api.ErrObj)
}

// TestFewFrames: files of at most three frames, of all kinds in all places, with all sums put right.
func TestFewFrames(t *testing.T) {
	bodies := [][]byte{nil, {1, 64, 0, 0, 0, 0}, {1, 64, 1, 1, 0, 0}, {22, 0}, {0, 1, 97}, {1, 0, 0}}
	var some []api.Frame
	for _, kind := range []int{1, 2, 3, 4, 5, 6} {
		for _, body := range bodies {
			some = append(some, api.Frame{Kind: kind, Body: body}, api.Frame{Kind: kind, Stream: 1, Body: body})
		}
	}
	good := 0
	try := func(fs ...api.Frame) {
		b := samples.Sealed(fs)
		want, e := plainLoad(b)
		loads(t, "P11.2: a file of few frames", b, want, e)
		if e == api.OK {
			good++
		}
	}
	for _, a := range some {
		try(a)
		for _, b := range some {
			try(a, b)
			if a.Kind != api.FrameHead && b.Kind != api.FrameFoot {
				continue
			}
			for _, c := range some {
				try(a, b, c)
			}
		}
	}
	// No events: the foot is made anew, whatever its body was. One mark: of the goroutine 0 or 1.
	if good != len(bodies)+2*len(bodies) {
		t.Errorf("P11.2: of all files of at most three frames %d are good", good)
	}
}
