package merge_test

import (
	"math"
	"math/rand"
	"slices"
	"testing"

	"hindsight/api"
	"hindsight/merge"
	"hindsight/samples"
)

func TestSplitExamples(t *testing.T) {
	one := []api.Event{ev(0, 1)}
	for _, c := range []struct {
		t    []api.Event
		ids  []int
		rows []api.Row
		e    api.Errno
	}{
		{[]api.Event{ev(0, 1), ev(2, 2), ev(0, 22)}, []int{5, 6, 5}, []api.Row{row(0, rec(0, 1, 5), rec(2, 22, 5)), row(2, rec(1, 2, 6))}, api.OK},
		{nil, nil, nil, api.OK},
		{[]api.Event{}, nil, nil, api.OK},
		{nil, []int{}, nil, api.OK},
		{one, nil, nil, api.ErrArg},
		{one, []int{1, 2}, nil, api.ErrArg},
		{nil, []int{0}, nil, api.ErrArg},
		{[]api.Event{ev(-1, 1)}, []int{0}, nil, api.ErrG},
		{[]api.Event{ev(65536, 1)}, []int{0}, nil, api.ErrG},
		{[]api.Event{ev(-1, 1)}, nil, nil, api.ErrArg},
		{[]api.Event{ev(65535, 0), ev(0, 99), ev(65535, -1)}, []int{-1, math.MaxInt, 0}, []api.Row{row(0, rec(1, 99, math.MaxInt)), row(65535, rec(0, 0, -1), rec(2, -1, 0))}, api.OK},
	} {
		if rows, e := merge.Split(c.t, c.ids); e != c.e || !sameRows(rows, c.rows) {
			t.Errorf("P10.1: Split(%v, %v) = %v, %d, want %v, %d", c.t, c.ids, rows, e, c.rows, c.e)
		}
		holdsTrace(t, c.t, c.ids)
	}
}

// TestSplitAll: all traces of at most seven events of the goroutines 0, 1 and 65535.
func TestSplitAll(t *testing.T) {
	numbers := []int{0, 1, maxG - 1}
	for _, b := range samples.AllBodies(7, 0, 1, 2) {
		gs := make([]int, len(b))
		for k, n := range b {
			gs[k] = numbers[n]
		}
		tr, ids := trace(gs...)
		holdsTrace(t, tr, ids)
	}
}

func TestSplitAny(t *testing.T) {
	r := rand.New(rand.NewSource(20))
	for n := range 400 {
		tr, ids := anyTrace(r.Intn, n, 1+r.Intn(1+r.Intn(maxG)))
		holdsTrace(t, tr, ids)
	}
}

// TestNoGoroutine: a G that may not be, at each place of traces.
func TestNoGoroutine(t *testing.T) {
	for _, g := range []int{-1, -2, maxG, maxG + 1, 1 << 32, 1<<32 + 1, -1 << 32, math.MaxInt, math.MinInt} {
		for n := 1; n < 6; n++ {
			for place := range n {
				tr, ids := trace(make([]int, n)...)
				tr[place].G = g
				if rows, e := merge.Split(tr, ids); e != api.ErrG || len(rows) != 0 {
					t.Errorf("P10.1: Split of %d events, the %d. with the G %d: %v, %d", n, place, g, rows, e)
				}
			}
		}
	}
}

// TestSplitFirstError: several faults at once, at the bounds of the number of events.
func TestSplitFirstError(t *testing.T) {
	most := make([]api.Event, maxEvents)
	more := make([]api.Event, maxEvents+1)
	wrong := slices.Clone(most)
	wrong[maxEvents-1].G = maxG
	moreWrong := append(slices.Clone(wrong), ev(-1, 0))
	for k, c := range []struct {
		t    []api.Event
		ids  int
		want api.Errno
	}{
		{most, maxEvents, api.OK},
		{most, maxEvents - 1, api.ErrArg},
		{most, maxEvents + 1, api.ErrArg},
		{most, 0, api.ErrArg},
		{wrong, maxEvents, api.ErrG},
		{wrong, maxEvents + 1, api.ErrArg},
		{more, maxEvents + 1, api.ErrLarge},
		{more, maxEvents, api.ErrLarge},
		{more, 0, api.ErrLarge},
		{moreWrong, maxEvents + 1, api.ErrLarge},
		{moreWrong, maxEvents, api.ErrLarge},
		{make([]api.Event, 2*maxEvents), 0, api.ErrLarge},
		{wrong[:maxEvents-1], maxEvents - 1, api.OK},
		{wrong[:maxEvents-1], maxEvents, api.ErrArg},
		{nil, maxEvents + 1, api.ErrArg},
	} {
		if rows, e := merge.Split(c.t, make([]int, c.ids)); e != c.want || (len(rows) == 1) != (e == api.OK) || len(rows) > 1 {
			t.Errorf("P10.1: Split %d, of %d events and %d ids: %d rows, %d, want %d", k, len(c.t), c.ids, len(rows), e, c.want)
		}
	}
}

// TestMostGoroutines: as many goroutines as there may be, and as many events, in several orders.
func TestMostGoroutines(t *testing.T) {
	for _, by := range []int{65535, 40503} {
		tr, ids := make([]api.Event, maxEvents), make([]int, maxEvents)
		for k := range tr {
			tr[k], ids[k] = api.Event{G: k * by % maxG, Kind: k, Obj: uint64(k)}, -k
		}
		rows, e := merge.Split(tr, ids)
		if e != api.OK || len(rows) != maxG {
			t.Fatalf("P10.1: Split of %d events of %d goroutines: %d rows, %d", maxEvents, maxG, len(rows), e)
		}
		for g, r := range rows {
			if r.G != g || len(r.Recs) != maxEvents/maxG {
				t.Fatalf("P10.1: the row %d has the number %d and %d records", g, r.G, len(r.Recs))
			}
			for n, x := range r.Recs {
				if s := x.Stamp; s < 0 || s >= maxEvents || tr[s].G != g || x.Kind != s || x.Obj != uint64(s) || x.Stack != -s || n > 0 && s <= r.Recs[n-1].Stamp {
					t.Fatalf("P10.1: the record %d of the row %d is %v", n, g, x)
				}
			}
		}
		bothWays(t, tr, ids, rows)
	}
}
