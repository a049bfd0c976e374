package index_test

import (
	"bytes"
	"math/rand"
	"slices"
	"testing"

	"hindsight/api"
	"hindsight/file"
	"hindsight/frame"
	"hindsight/index"
	"hindsight/samples"
)

// buildsAs holds Build of any bytes against Load; of a file that is good the index is asked, too.
func buildsAs(t *testing.T, seen samples.Seen, b []byte) {
	t.Helper()
	trace, fault := file.Load(b)
	x, e := index.Build(b)
	seen[e]++
	if e != fault || (x == nil) != (e != api.OK) {
		t.Fatalf("P12.1: Build of %d bytes = %v, %d; Load = %d", len(b), x != nil, e, fault)
	}
	if e == api.OK {
		tells(t, x, plainIndex(trace, b))
		reads(t, x, plainIndex(trace, b), 0, len(trace))
	}
}

func recorded(t *testing.T, trace []api.Event, limit int) []byte {
	t.Helper()
	b, e := file.Record(trace, limit)
	if e != api.OK {
		t.Fatalf("the test's own trace can't be written: %d", e)
	}
	return b
}

func TestRefusedExample(t *testing.T) {
	b := recorded(t, marks(0, 0, 1, 1, 0), 64)
	for _, c := range []struct {
		b    []byte
		want api.Errno
	}{{b[:len(b)-1], api.ErrEnd}, {nil, api.ErrHead}, {[]byte{}, api.ErrHead}, {b[:26], api.ErrFoot}, {append(slices.Clone(b), 0), api.ErrMagic}, {b[1:], api.ErrMagic}} {
		if x, e := index.Build(c.b); x != nil || e != c.want {
			t.Errorf("P12.1: Build of %v = %v, %d, want %d", c.b, x != nil, e, c.want)
		}
	}
}

// TestCutsAndTurns: a file cut at every place, from both sides, and with a bit of every byte turned.
func TestCutsAndTurns(t *testing.T) {
	seen := samples.Seen{}
	for _, trace := range [][]api.Event{nil, marks(0, 1), deep()} {
		b := recorded(t, trace, 64)
		for k := range b {
			buildsAs(t, seen, b[:k])
			buildsAs(t, seen, b[k:])
			c := slices.Clone(b)
			c[k] ^= 1 << (k % 8)
			buildsAs(t, seen, c)
		}
	}
	if rare := seen.Rare(api.ErrEnd, api.ErrMagic, api.ErrSum, api.ErrPlace, api.ErrFoot); len(rare) > 0 {
		t.Errorf("the errors %v were hardly seen", rare)
	}
}

// changed are frames of a file with one thing of them changed.
func changed(r *rand.Rand, fs []api.Frame) []api.Frame {
	fs = slices.Clone(fs)
	k, j := r.Intn(len(fs)), r.Intn(len(fs))
	switch r.Intn(8) {
	case 0:
		return slices.Delete(fs, k, k+1)
	case 1:
		return slices.Insert(fs, j, fs[k])
	case 2:
		fs[k], fs[j] = fs[j], fs[k]
	case 3:
		fs[k].Stream = r.Intn(7)
	case 4:
		fs[k].Kind = 1 + r.Intn(6)
	default:
		bodies := samples.Damage(r.Intn, [][]byte{fs[k].Body})
		rest := slices.Clone(fs[k+1:])
		f := fs[k]
		fs = fs[:k]
		for _, body := range bodies {
			f.Body = body
			fs = append(fs, f)
		}
		return append(fs, rest...)
	}
	return fs
}

// TestSealedDamages: frames that are changed, with all places and sums put right: so the faults lie deep.
func TestSealedDamages(t *testing.T) {
	r := rand.New(rand.NewSource(14))
	seen := samples.Seen{}
	for range 20000 {
		limit := []int{64, 64, 200, 5000}[r.Intn(4)]
		fs, _, _ := frame.Split(recorded(t, samples.Trace(r.Intn, 25), limit))
		fs = changed(r, fs)
		if len(fs) > 0 {
			buildsAs(t, seen, samples.Sealed(fs))
		}
	}
	if rare := seen.Rare(api.OK, api.ErrHead, api.ErrFoot, api.ErrPlace, api.ErrTotal, api.ErrForm, api.ErrChunk, api.ErrEnd, api.ErrKind, api.ErrOrder, api.ErrString, api.ErrNode, api.ErrGap, api.ErrForm2); len(rare) > 0 {
		t.Errorf("the errors %v were hardly seen: %v", rare, seen)
	}
}

func TestTooManyBytes(t *testing.T) {
	room := make([]byte, api.MaxFile+1)
	copy(room, recorded(t, deep(), 64))
	for size, want := range map[int]api.Errno{api.MaxFile: api.ErrMagic, api.MaxFile + 1: api.ErrLarge} {
		if x, e := index.Build(room[:size]); x != nil || e != want {
			t.Errorf("P12.1: Build of %d bytes = %v, %d, want %d", size, x != nil, e, want)
		}
	}
}

// TestNoIndex: a nil one, and one that Build did not make, which has no frames.
func TestNoIndex(t *testing.T) {
	var none *index.Index
	for name, x := range map[string]*index.Index{"nil": none, "zero": {}} {
		for _, k := range edges(0) {
			if x.Events(k) != 0 || len(x.Spots()) != 0 || len(x.Goroutines()) != 0 || x.Touched() != 0 {
				t.Errorf("P12.8: a %s index: Events(%d) = %d, Spots %v, Goroutines %v, Touched %d", name, k, x.Events(k), x.Spots(), x.Goroutines(), x.Touched())
			}
			for _, j := range edges(0) {
				got, e := x.Read(k, j)
				events, stamps, f := x.Of(0, k, j)
				if len(got) != 0 || len(events) != 0 || len(stamps) != 0 || x == nil && (e != api.ErrNil || f != api.ErrNil) {
					t.Errorf("P12.8: a %s index: Read(%d, %d) = %v, %d, Of(0, ..) = %v, %v, %d", name, k, j, got, e, events, stamps, f)
				}
			}
		}
	}
	if _, e := new(index.Index).Read(0, 0); e != api.OK {
		t.Errorf("P12.4: a zero index: Read(0, 0) = %d", e)
	}
	if _, _, e := new(index.Index).Of(0, 0, 0); e != api.ErrG {
		t.Errorf("P12.5: a zero index: Of(0, 0, 0) = %d", e)
	}
}

// TestBuildAgain: what Build answers hangs on its bytes alone, also behind others that it refused.
func TestBuildAgain(t *testing.T) {
	b := recorded(t, deep(), 64)
	for range 2 {
		x, p := built(t, deep(), 64)
		tells(t, x, p)
		if y, e := index.Build(b[:len(b)/2]); y != nil || e == api.OK {
			t.Errorf("P12.1: Build of half a file = %v, %d", y != nil, e)
		}
		reads(t, x, p, 0, len(p.trace))
	}
	if !bytes.Equal(b, recorded(t, deep(), 64)) {
		t.Errorf("P12.8: a file was changed")
	}
}
