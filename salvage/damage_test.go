package salvage_test

import (
	"bytes"
	"math/rand"
	"slices"
	"testing"

	"hindsight/api"
	"hindsight/frame"
	"hindsight/salvage"
	"hindsight/samples"
	"hindsight/stream"
)

// rich is a trace whose file, for the limit 64, has several bodies of each sort: of strings, of nodes, and
// of the records of each of four goroutines.
func rich() []api.Event {
	return samples.Events(rand.New(rand.NewSource(132)).Intn, 90, 4)
}

// sheet is a file of a trace, with what P13.4 must know of it: where its frames lie, and of which frames
// each event is made.
type sheet struct {
	trace  []api.Event
	bytes  []byte
	frames []api.Span
	needs  [][]int // of each event the frames that tell it, its stack's nodes and their strings
}

func newSheet(t *testing.T, trace []api.Event, limit int) *sheet {
	t.Helper()
	s := &sheet{trace: trace, bytes: recorded(t, trace, limit), needs: make([][]int, len(trace))}
	fs, _, _ := frame.Split(s.bytes)
	textIn, nodeIn := map[uint64]int{}, map[int]int{}
	told := plainTell(fs)
	at := 0
	for k, f := range fs {
		s.frames = append(s.frames, api.Span{From: at, To: at + 20 + len(f.Body)})
		at += 20 + len(f.Body)
		switch f.Kind {
		case 2:
			first, texts, _ := plainTexts(f.Body)
			for j := range texts {
				textIn[first+uint64(j)] = k
			}
		case 3:
			first, nodes, _ := plainNodes(f.Body)
			for j := range nodes {
				nodeIn[first+j] = k
			}
		case 4:
			recs, _ := stream.Chunk(f.Body)
			for _, r := range recs {
				s.needs[r.Stamp] = append(s.needs[r.Stamp], k)
				for id := r.Stack; id > 0; id = told.nodes[id].parent {
					s.needs[r.Stamp] = append(s.needs[r.Stamp], nodeIn[id], textIn[told.nodes[id].frame])
				}
			}
		}
	}
	return s
}

// damaged is the file with some frames damaged, each so that it is told, and cut off.
func (s *sheet) damaged(r *rand.Rand, which []bool, cut int) []byte {
	b := bytes.Clone(s.bytes)
	for k, hit := range which {
		if !hit {
			continue
		}
		part := b[s.frames[k].From+16 : s.frames[k].To]
		for damaged := false; !damaged; {
			switch r.Intn(4) {
			case 0:
				part[r.Intn(len(part))] ^= 1 << r.Intn(8)
			case 1:
				part[r.Intn(len(part))] = byte(r.Intn(256))
			case 2:
				r.Read(part)
			case 3:
				clear(part)
			}
			_, _, e := frame.Decode(b, s.frames[k].From)
			damaged = e != api.OK
		}
	}
	return b[:cut]
}

// expect is what P13.4 says that Save answers.
func (s *sheet) expect(which []bool, cut int) api.Rescue {
	want := api.Rescue{Whole: cut == len(s.bytes) && !slices.Contains(which, true)}
	lost := make([]bool, len(s.frames))
	badBytes := make([]bool, cut)
	for k, at := range s.frames {
		lost[k] = which[k] || at.To > cut
		if lost[k] {
			fill(badBytes, min(at.From, cut), min(at.To, cut))
		}
	}
	want.Bad = runs(badBytes)
	gap := false
	for stamp, needs := range s.needs {
		if slices.ContainsFunc(needs, func(k int) bool { return lost[k] }) {
			gap = true
			continue
		}
		want.Events = append(want.Events, s.trace[stamp])
		want.Stamps = append(want.Stamps, stamp)
		if !gap {
			want.Prefix++
		}
	}
	return want
}

// nothingMadeUp holds Save and Mend against P13.4 and P13.5.
func (s *sheet) nothingMadeUp(t *testing.T, r *rand.Rand, which []bool, cut int) api.Rescue {
	t.Helper()
	b := s.damaged(r, which, cut)
	want := s.expect(which, cut)
	got, e := salvage.Save(b)
	if e != api.OK || !sameRescue(got, want) {
		t.Fatalf("P13.4: the frames %v damaged, cut at %d: Save = stamps %v, bad %v, prefix %d, %v, want %v, %v, %d, %v",
			which, cut, got.Stamps, got.Bad, got.Prefix, got.Whole, want.Stamps, want.Bad, want.Prefix, want.Whole)
	}
	if which[0] || cut < s.frames[0].To {
		mends(t, "P13.4: without a head", b, nil, api.ErrHead)
		return want
	}
	head, _ := frame.DecodeHead(s.bytes[16 : s.frames[0].To-4])
	mends(t, "P13.4: with a head", b, recorded(t, want.Events[:want.Prefix], head.Limit), api.OK)
	return want
}

// TestEveryDamage damages every choice of A's frames, and cuts it at every place.
func TestEveryDamage(t *testing.T) {
	r := rand.New(rand.NewSource(133))
	s := newSheet(t, two(), 64)
	for choice := range 32 {
		which := make([]bool, 5)
		for k := range which {
			which[k] = choice>>k&1 == 1
		}
		for cut := range len(s.bytes) + 1 {
			s.nothingMadeUp(t, r, which, cut)
		}
	}
}

// TestEachFrameDamaged damages each frame of a rich file alone, and cuts it at each end of a frame and by it.
func TestEachFrameDamaged(t *testing.T) {
	r := rand.New(rand.NewSource(134))
	s := newSheet(t, rich(), 64)
	if len(s.frames) < 30 {
		t.Fatalf("the rich file has %d frames", len(s.frames))
	}
	some, none, prefix := 0, 0, 0
	for k := range s.frames {
		which := make([]bool, len(s.frames))
		which[k] = true
		want := s.nothingMadeUp(t, r, which, len(s.bytes))
		switch {
		case len(want.Events) == 0:
			none++
		case len(want.Events) < len(s.trace):
			some++
		}
		if want.Prefix > 0 && want.Prefix < len(want.Events) {
			prefix++
		}
		clear(which)
		for _, cut := range []int{s.frames[k].From, s.frames[k].From + 1, s.frames[k].From + 16, s.frames[k].To - 1} {
			s.nothingMadeUp(t, r, which, cut)
		}
	}
	if some < 10 || prefix < 10 {
		t.Errorf("the frames don't tell enough: %d, %d, %d", some, none, prefix)
	}
}

// TestDamages: traces and limits of all sorts, some frames damaged, cut somewhere or not.
func TestDamages(t *testing.T) {
	r := rand.New(rand.NewSource(135))
	gaps, cuts, wholes := 0, 0, 0
	for range 3000 {
		s := newSheet(t, samples.Trace(r.Intn, 60), samples.Limit(r.Intn))
		which := make([]bool, len(s.frames))
		for range r.Intn(4) {
			which[r.Intn(len(which))] = true
		}
		cut := len(s.bytes)
		if r.Intn(2) == 0 {
			cut = r.Intn(cut + 1)
			cuts++
		}
		want := s.nothingMadeUp(t, r, which, cut)
		if len(want.Events) > want.Prefix {
			gaps++
		}
		if want.Whole {
			wholes++
		}
	}
	if gaps < 100 || cuts < 100 || wholes < 100 {
		t.Errorf("%d with gaps, %d cut, %d whole", gaps, cuts, wholes)
	}
}

// pool are frames of several files, which tell unlike things of the same numbers.
func pool(t *testing.T, r *rand.Rand) []api.Frame {
	t.Helper()
	var all []api.Frame
	for range 1 + r.Intn(3) {
		fs, _, _ := frame.Split(recorded(t, samples.Trace(r.Intn, 25), samples.Limit(r.Intn)))
		all = append(all, fs...)
	}
	return all
}

// mixed are some frames of a pool, changed here and there.
func mixed(r *rand.Rand, pool []api.Frame) []api.Frame {
	fs := slices.Clone(pool)
	for range r.Intn(5) {
		if len(fs) == 0 {
			break
		}
		k, j := r.Intn(len(fs)), r.Intn(len(fs))
		switch r.Intn(8) {
		case 0:
			fs = slices.Delete(fs, k, k+1)
		case 1:
			fs = slices.Insert(fs, k, fs[j])
		case 2:
			fs[k], fs[j] = fs[j], fs[k]
		case 3:
			fs[k].Kind = 1 + r.Intn(6)
		case 4:
			fs[k].Stream = []int{0, 1, 65535}[r.Intn(3)]
		case 5:
			r.Shuffle(len(fs), func(k, j int) { fs[k], fs[j] = fs[j], fs[k] })
		default:
			if bodies := samples.Damage(r.Intn, [][]byte{fs[k].Body}); len(bodies) > 0 {
				fs[k].Body = bodies[0]
			}
		}
	}
	return fs
}

// spoilt are bytes changed without regard to their frames.
func spoilt(r *rand.Rand, b []byte) []byte {
	b = bytes.Clone(b)
	for range r.Intn(3) {
		at := r.Intn(len(b) + 1)
		switch r.Intn(5) {
		case 0:
			b = b[:at]
		case 1:
			b = slices.Insert(b, at, byte(r.Intn(256)))
		case 2:
			b = slices.Delete(b, at, min(len(b), at+r.Intn(30)))
		case 3:
			if at < len(b) {
				b[at] ^= 1 << r.Intn(8)
			}
		case 4:
			b = slices.Insert(b, at, top(byte(r.Intn(5)), uint32(r.Intn(400)))...)
		}
	}
	return b
}

// TestMixed: frames of several files among each other, sums put right, and bytes changed behind that.
func TestMixed(t *testing.T) {
	r := rand.New(rand.NewSource(136))
	seen := samples.Seen{}
	twice, gaps, bads, wholes := 0, 0, 0, 0
	for range 12000 {
		b := spoilt(r, samples.Joined(mixed(r, pool(t, r))))
		saved := holds(t, "frames of all sorts", b)
		_, fault := salvage.Mend(b)
		seen[fault]++
		found, _ := plainWalk(b)
		if told := plainTell(found); len(told.recs) > len(saved.Events) {
			twice++
		}
		if saved.Prefix < len(saved.Events) {
			gaps++
		}
		if len(saved.Bad) > 1 {
			bads++
		}
		if saved.Whole {
			wholes++
		}
	}
	if rare := seen.Rare(api.OK, api.ErrHead); rare != nil || twice < 100 || gaps < 100 || bads < 20 || wholes < 100 {
		t.Errorf("%v come too seldom; records that are not answered %d, gaps %d, several runs of bad bytes %d, whole %d", rare, twice, gaps, bads, wholes)
	}
}

// TestMarred: bytes of all sorts, many of them those with which frames begin.
func TestMarred(t *testing.T) {
	r := rand.New(rand.NewSource(137))
	a := fileA(t)
	for range 5000 {
		b := make([]byte, r.Intn(200))
		for k := range b {
			b[k] = []byte{167, 0, 4, byte(r.Intn(256))}[r.Intn(4)]
		}
		holds(t, "any bytes", b)
		c := bytes.Clone(a)
		copy(c[r.Intn(len(c)):], b)
		holds(t, "any bytes over A", c)
	}
}
