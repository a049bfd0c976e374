package watch_test

import (
	"math"
	"math/rand"
	"runtime"
	"slices"
	"testing"
	"time"

	"hindsight/api"
	"hindsight/samples"
	"hindsight/watch"
)

// runs holds Run against the plain one.
func runs(t *testing.T, pieces [][]byte, stop int) api.Errno {
	t.Helper()
	want, f := plainRun(pieces, stop)
	got, e := watch.Run(pieces, stop)
	if e != f || !sameVerdict(got, want) {
		t.Fatalf("P26.7: Run of %d pieces, %.300v, stop %d = %v, %d, want %v, %d", len(pieces), pieces, stop, got, e, want, f)
	}
	return e
}

// TestRunExamples is the sixth example of the chapter.
func TestRunExamples(t *testing.T) {
	b := taped(t, f1, 64, 1)
	pieces := [][]byte{b[:40], b[40:]}
	for _, stop := range []int{-1, 2, 9, math.MinInt, math.MaxInt, 3} {
		v, e := watch.Run(pieces, stop)
		is(t, "P26.7: Run", v, e, verdict(3, one), api.OK)
	}
	v, e := watch.Run(pieces, 0)
	is(t, "P26.7: Run, stop 0", v, e, verdict(0), api.ErrCancel)
	v, e = watch.Run([][]byte{b, nil}, 1)
	is(t, "P26.7: Run, stop 1", v, e, verdict(3, one), api.ErrCancel)
	for _, none := range [][][]byte{nil, {}} {
		for _, stop := range []int{-1, 0, 1} {
			v, e := watch.Run(none, stop)
			is(t, "P26.7: Run of no pieces", v, e, verdict(0), api.OK)
		}
	}
	v, e = watch.Run(pieces[:1], -1)
	is(t, "P26.7: Run of a recording that is cut off", v, e, api.Verdict{}, api.ErrSpoilt)
	v, e = watch.Run(pieces[:1], 1)
	is(t, "P26.7: Run of one that is cut off, stop 1", v, e, api.Verdict{}, api.ErrSpoilt)
	v, e = watch.Run([][]byte{b, {7}, b}, 2)
	is(t, "P26.7: Run, stopped behind what is no frame", v, e, verdict(3, one), api.ErrCancel)
}

// TestEveryStop: recordings of all sorts, also damaged ones, in pieces of any size, with each stop.
func TestEveryStop(t *testing.T) {
	r := rand.New(rand.NewSource(268))
	seen := samples.Seen{}
	for range 150 {
		b := taped(t, someTrace(r, 30), 64, r.Intn(5))
		if r.Intn(3) == 0 {
			b = slices.Concat(samples.Damage(r.Intn, [][]byte{b})...)
		}
		pieces := somePieces(r, b)
		for stop := -2; stop <= len(pieces)+1; stop++ {
			seen[runs(t, pieces, stop)]++
		}
	}
	if rare := seen.Rare(api.OK, api.ErrSpoilt, api.ErrCancel); len(rare) > 0 {
		t.Errorf("seen were %v", seen)
	}
}

// TestRunAgain: the same pieces and stop, many times over, as goroutines are quick and slow.
func TestRunAgain(t *testing.T) {
	b := taped(t, many, 64, 1)
	pieces := slices.Concat(sized(b, 20), [][]byte{nil, nil})
	for procs := 1; procs <= 8; procs *= 2 {
		was := runtime.GOMAXPROCS(procs)
		for range 2000 {
			for _, stop := range []int{-1, 0, 1, 7, len(pieces) - 1, len(pieces)} {
				v, e := watch.Run(pieces, stop)
				want, f := plainAgain(pieces, stop)
				if e != f || !sameVerdict(v, want) {
					t.Fatalf("P26.7: Run, stop %d = %v, %d, want %v, %d", stop, v, e, want, f)
				}
			}
		}
		runtime.GOMAXPROCS(was)
	}
}

// plainAgain is plainRun of pieces of many's recording, of 20 bytes each: quicker.
func plainAgain(pieces [][]byte, stop int) (api.Verdict, api.Errno) {
	w := watch.New()
	for k, b := range pieces {
		if k == stop {
			return w.Sofar(), api.ErrCancel
		}
		w.Push(b)
	}
	return w.Close()
}

// TestFailingPush: a Push that fails ahead of the stop is the answer, one at the stop or behind it is not made.
func TestFailingPush(t *testing.T) {
	b, most := taped(t, f1, 64, 0), make([]byte, api.MaxTape)
	rest := most[:api.MaxTape-len(b)]
	for _, pieces := range [][][]byte{
		{b, most, {1}},
		{b, rest, {1}, nil, b},
		{b, rest, nil, {1}},
		{b, {7}, rest, {1}},
		{b, {7}, nil, rest, nil, {}},
		{make([]byte, api.MaxTape+1), b},
		{rest, b, {}, {1}, {1}},
		slices.Repeat([][]byte{most[:1<<20]}, 66),
	} {
		fails, sum := 0, 0
		for _, piece := range pieces {
			if sum += len(piece); sum > api.MaxTape {
				break
			}
			fails++
		}
		for stop := -1; stop <= len(pieces)+1; stop++ {
			if len(pieces) > 9 && stop > 1 && stop < 62 {
				continue
			}
			_, e := watch.Run(pieces, stop)
			want := api.ErrLarge
			if stop >= 0 && stop <= fails {
				want = api.ErrCancel
			}
			if fails == len(pieces) {
				t.Fatal("no Push fails")
			}
			if e != want {
				t.Errorf("P26.7: Run of %d pieces, of which the Push of %d fails, stop %d = %d, want %d", len(pieces), fails, stop, e, want)
			}
		}
	}
	two := [][]byte{b, most, b}
	v, e := watch.Run(two, 1)
	is(t, "P26.7: Run, stopped right ahead of a Push that fails", v, e, verdict(3, one), api.ErrCancel)
	v, e = watch.Run(two, 2)
	is(t, "P26.7: Run, stopped right behind it", v, e, api.Verdict{}, api.ErrLarge)
}

// settled tells whether there are no more goroutines than there were. (One that has done all it does may be
// counted for a moment yet.)
func settled(were int) bool {
	for range 1000 {
		if runtime.NumGoroutine() <= were {
			return true
		}
		time.Sleep(time.Millisecond)
	}
	return false
}

// TestNoGoroutineIsLeft: of no Run and of no Batch, however it ends.
func TestNoGoroutineIsLeft(t *testing.T) {
	were := runtime.NumGoroutine()
	b, most := taped(t, many, 64, 1), make([]byte, api.MaxTape)
	pieces := slices.Concat(sized(b, 5), [][]byte{{9}, most, most, {1}, b})
	for range 20 {
		for stop := -1; stop < len(pieces)+2; stop++ {
			watch.Run(pieces[:len(pieces)-4], stop)
		}
	}
	for stop := len(pieces) - 6; stop < len(pieces)+2; stop++ {
		watch.Run(pieces, stop)
	}
	for _, workers := range []int{-1, 0, 1, 2, 64, 65} {
		watch.Batch([][]byte{b, nil, {7}}, workers)
		watch.Batch(nil, workers)
		watch.Batch(make([][]byte, 1025), workers)
	}
	if !settled(were) {
		t.Errorf("P26.7: %d goroutines are left of %d", runtime.NumGoroutine(), were)
	}
}

// TestManyPieces: a million of them, nearly all without bytes.
func TestManyPieces(t *testing.T) {
	pieces := make([][]byte, 1<<20)
	b := taped(t, f1, 64, 1)
	pieces[77], pieces[1<<19], pieces[1<<20-1] = b[:33], b[33:], []byte{}
	v, e := watch.Run(pieces, -1)
	is(t, "P26.7: Run of a million pieces", v, e, verdict(3, one), api.OK)
	v, e = watch.Run(pieces, 1<<19)
	is(t, "P26.7: Run of half of them", v, e, verdict(0), api.ErrCancel)
	v, e = watch.Run(pieces, 1<<20-1)
	is(t, "P26.7: Run of all but one", v, e, verdict(3, one), api.ErrCancel)
}
