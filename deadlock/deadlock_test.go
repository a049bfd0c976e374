package deadlock_test

import (
	"slices"
	"testing"

	"hindsight/api"
)

// TestExamples are those of the chapter.
func TestExamples(t *testing.T) {
	one := parts(2, nest(0, 1, 2), nest(1, 2, 1))
	both := []api.Hold{hold(0, 1, 2, 2), hold(1, 2, 1, 6)}
	hasHolds(t, one, both...)
	hasRings(t, one, both)
	hasNoOrder(t, one)

	two := parts(2, nest(0, 1, 2), nest(0, 2, 1))
	hasHolds(t, two, hold(0, 1, 2, 2), hold(0, 2, 1, 6))
	hasRings(t, two)
	hasNoOrder(t, two)

	three := parts(2, nest(0, 9, 1, 2), nest(1, 9, 2, 1))
	hasHolds(t, three, hold(0, 9, 1, 2), hold(0, 1, 2, 3), hold(0, 9, 2, 3), hold(1, 9, 2, 8), hold(1, 2, 1, 9), hold(1, 9, 1, 9))
	hasRings(t, three)
	hasNoOrder(t, three)

	four := parts(2, nest(0, 1, -2), nest(1, 2, -1))
	read := []api.Hold{{G: 0, Outer: 1, Inner: 2, InnerRead: true, At: 2}, {G: 1, Outer: 2, Inner: 1, InnerRead: true, At: 6}}
	hasHolds(t, four, read...)
	hasRings(t, four, read)
	hasRings(t, parts(2, nest(0, -1, -2), nest(1, -2, -1)))
	hasRings(t, parts(2, nest(0, -1, 2), nest(1, 2, -1)))

	five := []api.Event{acquire(0, 7), release(0, 7), acquire(0, 3)}
	hasHolds(t, five)
	hasRings(t, five)
	hasOrder(t, five, 3, 7)

	six := parts(3, nest(0, 1, 2), nest(1, 2, 3), nest(2, 3, 1))
	hasRings(t, six, []api.Hold{hold(0, 1, 2, 3), hold(1, 2, 3, 7), hold(2, 3, 1, 11)})
	seven := parts(5, nest(0, 1, 2), nest(1, 2, 3), nest(2, 3, 4), nest(3, 4, 5), nest(4, 5, 1))
	hasRings(t, seven)
	hasNoOrder(t, seven)

	for _, run := range [][]api.Event{one, two, three, four, five, six, seven} {
		agrees(t, run, plainCycles)
	}
}

// TestNoEvents: a trace without events, and runs without locks.
func TestNoEvents(t *testing.T) {
	for _, run := range [][]api.Event{nil, {}, {mark}, begin(4), {ev(0, api.Make, 7, 1), ev(0, api.Send, 7, 0), ev(0, api.Write, 7, 4), ev(0, api.Once, 7, 1)}} {
		hasHolds(t, run)
		hasRings(t, run)
		hasOrder(t, run)
	}
}

// TestHolds: which locks are held at a taking, and how.
func TestHolds(t *testing.T) {
	read := func(h api.Hold) api.Hold { h.OuterRead = true; return h }
	reads := func(h api.Hold) api.Hold { h.InnerRead = true; return h }
	for name, x := range map[string]struct {
		run  []api.Event
		want []api.Hold
	}{
		"held to write":                {nest(0, 1, 2), []api.Hold{hold(0, 1, 2, 1)}},
		"held to read":                 {nest(0, -1, 2), []api.Hold{read(hold(0, 1, 2, 1))}},
		"taken to read":                {nest(0, 1, -2), []api.Hold{reads(hold(0, 1, 2, 1))}},
		"both to read":                 {nest(0, -1, -2), []api.Hold{read(reads(hold(0, 1, 2, 1)))}},
		"several, by rising Outers":    {nest(0, 5, 3, 4, 1), []api.Hold{hold(0, 5, 3, 1), hold(0, 3, 4, 2), hold(0, 5, 4, 2), hold(0, 3, 1, 3), hold(0, 4, 1, 3), hold(0, 5, 1, 3)}},
		"some to read":                 {nest(0, 5, -3, 4), []api.Hold{reads(hold(0, 5, 3, 1)), read(hold(0, 3, 4, 2)), hold(0, 5, 4, 2)}},
		"given back":                   {[]api.Event{acquire(0, 1), release(0, 1), acquire(0, 2)}, nil},
		"given back to read":           {[]api.Event{racquire(0, 1), rrelease(0, 1), acquire(0, 2)}, nil},
		"given back and taken again":   {[]api.Event{acquire(0, 1), release(0, 1), acquire(0, 1), acquire(0, 2)}, []api.Hold{hold(0, 1, 2, 3)}},
		"taken in the other way again": {[]api.Event{acquire(0, 1), release(0, 1), racquire(0, 1), acquire(0, 2)}, []api.Hold{read(hold(0, 1, 2, 3))}},
		"read, then written":           {[]api.Event{racquire(0, 1), rrelease(0, 1), acquire(0, 1), racquire(0, 2)}, []api.Hold{reads(hold(0, 1, 2, 3))}},
		"read twice, given back once":  {[]api.Event{racquire(0, 1), racquire(0, 1), rrelease(0, 1), acquire(0, 2)}, []api.Hold{read(hold(0, 1, 2, 3))}},
		"read twice, given back twice": {[]api.Event{racquire(0, 1), racquire(0, 1), rrelease(0, 1), rrelease(0, 1), acquire(0, 2)}, nil},
		"read three times over":        {[]api.Event{racquire(0, 1), racquire(0, 1), racquire(0, 1), acquire(0, 2)}, []api.Hold{read(hold(0, 1, 2, 3))}},
		"the same lock again":          {[]api.Event{racquire(0, 1), racquire(0, 1), racquire(0, 1)}, nil},
		"the same lock, beside others": {[]api.Event{racquire(0, 1), acquire(0, 2), racquire(0, 1)}, []api.Hold{read(hold(0, 1, 2, 1)), reads(hold(0, 2, 1, 2))}},
		"out of the middle":            {[]api.Event{acquire(0, 1), acquire(0, 2), acquire(0, 3), release(0, 2), acquire(0, 4)}, []api.Hold{hold(0, 1, 2, 1), hold(0, 1, 3, 2), hold(0, 2, 3, 2), hold(0, 1, 4, 4), hold(0, 3, 4, 4)}},
		"the same pair again":          {slices.Concat(nest(0, 1, 2), nest(0, 1, 2)), []api.Hold{hold(0, 1, 2, 1), hold(0, 1, 2, 5)}},
		"what others hold":             {parts(2, []api.Event{acquire(0, 1), acquire(1, 2), racquire(0, 3), racquire(1, 3)}), []api.Hold{reads(hold(0, 1, 3, 3)), reads(hold(1, 2, 3, 4))}},
		"several goroutines":           {parts(3, []api.Event{acquire(2, 1), acquire(1, 2), acquire(2, 3), acquire(1, 0), acquire(0, 4)}), []api.Hold{hold(2, 1, 3, 4), hold(1, 2, 0, 5)}},
		"great numbers":                {[]api.Event{acquire(0, top), acquire(0, 1<<63), acquire(0, 0)}, []api.Hold{hold(0, top, 1<<63, 1), hold(0, 1<<63, 0, 2), hold(0, top, 0, 2)}},
		"held by one that was joined":  {[]api.Event{ev(0, api.Fork, 0, 1), acquire(1, 1), ev(0, api.Join, 0, 1), acquire(0, 2)}, nil},
		"other sorts of the number":    {[]api.Event{ev(0, api.Make, 1, 4), ev(0, api.Once, 1, 1), ev(0, api.Alloc, 1, 1), ev(0, api.Send, 1, 0), acquire(0, 2)}, nil},
	} {
		t.Run(name, func(t *testing.T) {
			hasHolds(t, x.run, x.want...)
			agrees(t, x.run, plainCycles)
		})
	}
}
