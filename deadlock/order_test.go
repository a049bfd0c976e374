package deadlock_test

import (
	"slices"
	"testing"

	"hindsight/api"
)

// TestOrder: each place has the least lock that can stand there.
func TestOrder(t *testing.T) {
	for name, x := range map[string]struct {
		run  []api.Event
		want []uint64
	}{
		"one":                              {nest(0, 7), []uint64{7}},
		"one, to read, again and again":    {slices.Concat(nest(0, -7, -7, -7), nest(0, 7)), []uint64{7}},
		"rising":                           {slices.Concat(nest(0, 7), nest(0, 3), nest(0, 5), nest(0, 3)), []uint64{3, 5, 7}},
		"two":                              {nest(0, 7, 3), []uint64{7, 3}},
		"two, rising":                      {nest(0, 3, 7), []uint64{3, 7}},
		"to read":                          {nest(0, -7, -3), []uint64{7, 3}},
		"one between":                      {slices.Concat(nest(0, 7, 3), nest(0, 5)), []uint64{5, 7, 3}},
		"one behind":                       {slices.Concat(nest(0, 7, 3), nest(0, 9)), []uint64{7, 3, 9}},
		"what comes free goes ahead":       {slices.Concat(nest(0, 5, 1), nest(0, 6), nest(0, 4)), []uint64{4, 5, 1, 6}},
		"several that could come next":     {slices.Concat(nest(0, 9, 2), nest(0, 8, 1), nest(0, 7, 3)), []uint64{7, 3, 8, 1, 9, 2}},
		"behind both of its Outers":        {slices.Concat(nest(0, 4, 1), nest(0, 6, 1), nest(0, 5)), []uint64{4, 5, 6, 1}},
		"the same hold again and again":    {slices.Concat(nest(0, 4, 1), nest(0, 4, 1), nest(0, 4, 1), nest(0, 2, 1)), []uint64{2, 4, 1}},
		"a long row":                       {nest(0, 9, 8, 7, 6, 5, 4), []uint64{9, 8, 7, 6, 5, 4}},
		"two rows that cross":              {slices.Concat(nest(0, 9, 5, 1), nest(0, 8, 5, 2)), []uint64{8, 9, 5, 1, 2}},
		"held out of turn":                 {[]api.Event{acquire(0, 5), acquire(0, 4), release(0, 5), acquire(0, 3)}, []uint64{5, 4, 3}},
		"given back ahead":                 {[]api.Event{acquire(0, 5), release(0, 5), acquire(0, 4)}, []uint64{4, 5}},
		"not given back":                   {[]api.Event{acquire(0, 5), acquire(0, 4)}, []uint64{5, 4}},
		"of several goroutines":            {parts(3, nest(1, 9, 8), nest(2, 8, 7), nest(0, 9, 7)), []uint64{9, 8, 7}},
		"what another one holds":           {parts(2, []api.Event{acquire(0, 9), acquire(1, 3)}), []uint64{3, 9}},
		"great numbers":                    {[]api.Event{acquire(0, top), acquire(0, 1<<63), acquire(0, 0), release(0, 0), release(0, 1<<63), release(0, top), acquire(0, 1<<63-1)}, []uint64{1<<63 - 1, top, 1 << 63, 0}},
		"the least and the greatest":       {[]api.Event{acquire(0, top), release(0, top), acquire(0, 0), release(0, 0), acquire(0, 1<<63)}, []uint64{0, 1 << 63, top}},
		"a lock beside others of its name": {[]api.Event{ev(0, api.Make, 1, 1), ev(0, api.Store, 2, 0), acquire(0, 3), ev(0, api.Write, 4, 1), ev(0, api.Once, 5, 1)}, []uint64{3}},
		"to read inside itself":            {[]api.Event{racquire(0, 3), racquire(0, 3), acquire(0, 1)}, []uint64{3, 1}},
	} {
		t.Run(name, func(t *testing.T) {
			hasOrder(t, x.run, x.want...)
			agrees(t, x.run, plainCycles)
		})
	}
}

// TestNoOrder: rings of holds, of whatever length, of one goroutine or of readers, or behind a gate.
func TestNoOrder(t *testing.T) {
	for name, run := range map[string][]api.Event{
		"one goroutine":                   slices.Concat(nest(0, 1, 2), nest(0, 2, 1)),
		"readers":                         parts(2, nest(0, -1, -2), nest(1, -2, -1)),
		"a gate":                          parts(2, nest(0, 9, 1, 2), nest(1, 9, 2, 1)),
		"a ring, and locks beside it":     slices.Concat(nest(0, 1, 2), nest(0, 2, 1), nest(0, 3), nest(0, 0)),
		"a ring, and locks ahead of it":   slices.Concat(nest(0, 9, 1, 2), nest(0, 2, 1)),
		"a ring, and locks behind it":     slices.Concat(nest(0, 1, 2, 3), nest(0, 2, 1)),
		"three of one goroutine":          slices.Concat(nest(0, 1, 2), nest(0, 2, 3), nest(0, 3, 1)),
		"a lock to read, taken again":     {racquire(0, 1), acquire(0, 2), racquire(0, 1)},
		"a lock given back, and again":    {acquire(0, 1), acquire(0, 2), release(0, 1), acquire(0, 1)},
		"a far end":                       slices.Concat(nest(0, 1, 2, 3, 4, 5, 6, 7, 8), nest(0, 8, 1)),
		"great numbers":                   {acquire(0, top), acquire(0, 0), release(0, top), acquire(0, top)},
		"a ring in one event's Outers":    slices.Concat(nest(0, 1, 2), nest(0, 2, 3, 1)),
		"one that no lock can begin with": parts(2, nest(0, 1, 2), nest(1, 2, 3), nest(0, 3, 1)),
	} {
		t.Run(name, func(t *testing.T) {
			hasNoOrder(t, run)
			hasRings(t, run)
			agrees(t, run, plainCycles)
		})
	}
	for n := 2; n < 70; n++ {
		var run []api.Event
		for k := range n {
			run = append(run, nest(0, k+1, (k+1)%n+1)...)
		}
		hasNoOrder(t, run)
		hasOrder(t, run[:len(run)-3], upTo(n)...) // without the last hold
	}
}
