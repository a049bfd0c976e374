package watch_test

import (
	"math"
	"math/rand"
	"slices"
	"testing"

	"hindsight/api"
	"hindsight/samples"
	"hindsight/watch"
)

// batched holds Batch against the plain look at each file, and answers the errors.
func batched(t *testing.T, files [][]byte, workers ...int) []api.Errno {
	t.Helper()
	var faults []api.Errno
	for _, n := range workers {
		verdicts, es, e := watch.Batch(files, n)
		if faults = es; e != api.OK || len(verdicts) != len(files) || len(es) != len(files) {
			t.Fatalf("P26.8: Batch of %d files, %d workers: %d verdicts, %d errors, %d", len(files), n, len(verdicts), len(es), e)
		}
		for k, b := range files {
			if want, f := plainLook(b); es[k] != f || !sameVerdict(verdicts[k], want) {
				t.Fatalf("P26.8: Batch, %d workers: of the file %d, %.300v: %v, %d, want %v, %d", n, k, b, verdicts[k], es[k], want, f)
			}
		}
	}
	return faults
}

// TestBatchExamples is the seventh example of the chapter, and what else may be looked at.
func TestBatchExamples(t *testing.T) {
	whole, tape := filed(t, f1, 64), taped(t, f1, 64, 0)
	noRun := append(slices.Clone(f1), ev(9, api.Mark, 0, 0))
	cases := []struct {
		name  string
		bytes []byte
		want  api.Verdict
		fault api.Errno
	}{
		{"the file of F1", whole, verdict(3, one), api.OK},
		{"three bytes of anything", []byte{1, 2, 3}, api.Verdict{}, api.ErrMagic},
		{"the recording of F1", tape, verdict(3, one), api.OK},
		{"no bytes, which are a recording of nothing", nil, verdict(0), api.OK},
		{"the file of nothing", filed(t, nil, 64), verdict(0), api.OK},
		{"a recording's head alone", tape[:26], verdict(0), api.OK},
		{"a file that is cut off", whole[:len(whole)-1], api.Verdict{}, api.ErrEnd},
		{"a recording that is cut off", tape[:len(tape)-1], api.Verdict{}, api.ErrEnd},
		{"a file with a byte behind it", append(slices.Clone(whole), 0), api.Verdict{}, api.ErrMagic},
		{"a recording with a byte behind it", append(slices.Clone(tape), 0), api.Verdict{}, api.ErrMagic},
		{"a file and a recording", slices.Concat(whole, tape), api.Verdict{}, api.ErrPlace},
		{"a recording and a file", slices.Concat(tape, whole), api.Verdict{}, api.ErrPlace},
		{"a file of no run", filed(t, noRun, 64), api.Verdict{Events: 4, Bad: 3, Reason: 1}, api.OK},
		{"a recording of no run", taped(t, noRun, 64, 1), api.Verdict{Events: 4, Bad: 3, Reason: 1}, api.OK},
		{"a file of many races", filed(t, many, 1000), verdict(9, manyRaces...), api.OK},
		{"a recording of many races", taped(t, many, 1000, 2), verdict(9, manyRaces...), api.OK},
	}
	var files [][]byte
	for _, c := range cases {
		files = append(files, c.bytes)
	}
	for _, workers := range []int{1, 2, 3, 16, 17, 64} {
		verdicts, faults, e := watch.Batch(files, workers)
		if e != api.OK {
			t.Fatalf("P26.8: Batch = %d", e)
		}
		for k, c := range cases {
			is(t, "P26.8: Batch of "+c.name, verdicts[k], faults[k], c.want, c.fault)
		}
	}
	batched(t, files, 1, 64)
}

// TestBatchRefusals: how many workers there may be goes ahead of how many files.
func TestBatchRefusals(t *testing.T) {
	for _, c := range []struct {
		files, workers int
		want           api.Errno
	}{
		{0, 1, api.OK}, {0, 64, api.OK}, {0, 0, api.ErrArg}, {0, 65, api.ErrArg}, {0, -1, api.ErrArg},
		{3, math.MinInt, api.ErrArg}, {3, math.MaxInt, api.ErrArg}, {3, 1 << 32, api.ErrArg}, {3, 1<<32 + 1, api.ErrArg},
		{1024, 1, api.OK}, {1024, 64, api.OK}, {1024, 0, api.ErrArg},
		{1025, 1, api.ErrLarge}, {1025, 64, api.ErrLarge}, {1025, 0, api.ErrArg}, {1025, 65, api.ErrArg},
		{1 << 20, 7, api.ErrLarge},
	} {
		verdicts, faults, e := watch.Batch(make([][]byte, c.files), c.workers)
		n := c.files
		if c.want != api.OK {
			n = 0
		}
		if e != c.want || len(verdicts) != n || len(faults) != n {
			t.Errorf("P26.8: Batch of %d files, %d workers: %d verdicts, %d errors, %d, want %d", c.files, c.workers, len(verdicts), len(faults), e, c.want)
		}
	}
}

// TestBatchOfMany: 1024 files and recordings of all sorts, whole and damaged, with any number of workers.
func TestBatchOfMany(t *testing.T) {
	r := rand.New(rand.NewSource(269))
	var files [][]byte
	for len(files) < 1024 {
		trace, limit := someTrace(r, 40), samples.Limit(r.Intn)
		var b []byte
		if r.Intn(2) == 0 {
			b = filed(t, trace, limit)
		} else {
			b = taped(t, trace, limit, r.Intn(6))
		}
		if r.Intn(3) == 0 {
			b = slices.Concat(samples.Damage(r.Intn, [][]byte{b})...)
		}
		files = append(files, b)
	}
	good := 0
	for _, fault := range batched(t, files, 1, 2, 63, 64) {
		if fault == api.OK {
			good++
		}
	}
	if good < 500 || good > 1000 {
		t.Errorf("%d of 1024 are good", good)
	}
	for workers := 1; workers <= 64; workers++ {
		batched(t, files[workers:2*workers+r.Intn(5)], workers)
	}
}

// TestSameBytes: the same bytes at several places, and beside one another.
func TestSameBytes(t *testing.T) {
	whole := slices.Concat(filed(t, many, 64), taped(t, many, 64, 1))
	n := len(filed(t, many, 64))
	files := slices.Repeat([][]byte{whole[:n], whole[n:], whole, whole[1:]}, 200)
	batched(t, files, 64)
}

// TestLargestFiles: more bytes than a file or a tape may have.
func TestLargestFiles(t *testing.T) {
	all := make([]byte, api.MaxFile+1)
	copy(all, filed(t, f1, 64))
	es := batched(t, [][]byte{all, all[:api.MaxFile], all[1:], all[:len(filed(t, f1, 64))]}, 4)
	if !slices.Equal(es, []api.Errno{api.ErrLarge, api.ErrMagic, api.ErrMagic, api.OK}) {
		t.Errorf("P26.8: the errors are %v", es)
	}
}
