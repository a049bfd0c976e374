package ring_test

import (
	"bytes"
	"testing"

	"hindsight/api"
	"hindsight/file"
	"hindsight/ring"
)

// TestGreatestRing: the greatest ring, empty, one event ahead of full, just full, one event behind it,
// and gone round several times.
func TestGreatestRing(t *testing.T) {
	x, _ := ring.New(api.MaxRing)
	all := make([]api.Event, 0, 3*api.MaxRing+7)
	for k := range cap(all) {
		e := api.Event{G: k % 5, Kind: api.Mark, Obj: uint64(k), Stack: []string{"f", "main"}}
		all = append(all, e)
		if fault := x.Emit(e); fault != api.OK {
			t.Fatalf("P15.2: Emit = %d", fault)
		}
		lost := max(0, k+1-api.MaxRing)
		if x.Lost() != lost || x.Len() != k+1-lost {
			t.Fatalf("P15.3: behind %d events: Len %d, Lost %d", k+1, x.Len(), x.Lost())
		}
		switch k + 1 {
		case 1, api.MaxRing - 1, api.MaxRing, api.MaxRing + 1, 2 * api.MaxRing, cap(all):
			if !same(x.Snapshot(), all[lost:]) {
				t.Fatalf("P15.4: Snapshot behind %d events", k+1)
			}
		}
	}
	held := all[len(all)-api.MaxRing:]
	if got := x.Window(3); !same(got, held[len(held)-15:]) {
		t.Errorf("P15.6: Window(3) = %v", got)
	}
	if got := x.Window(api.MaxRing); !same(got, held) {
		t.Errorf("P15.6: Window(65536) has %d events", len(got))
	}
	got, e := x.File(4096)
	want, _ := file.Record(held, 4096)
	if e != api.OK || !bytes.Equal(got, want) {
		t.Errorf("P15.5: File of the greatest ring: %d", e)
	}
}

// TestAllGoroutines: the greatest ring with an event of each goroutine there is, and with two of some.
func TestAllGoroutines(t *testing.T) {
	x, _ := ring.New(api.MaxRing)
	for g := range api.MaxG {
		x.Emit(mark(g, 1))
	}
	if got := x.Window(1); !same(got, x.Snapshot()) || len(got) != api.MaxG {
		t.Errorf("P15.6: Window(1) has %d events", len(got))
	}
	for g := range 1000 {
		x.Emit(mark(api.MaxG-1-g, 2))
	}
	one, two := x.Window(1), x.Window(2)
	if len(one) != api.MaxRing-1000 || !same(one[:1], []api.Event{mark(1000, 1)}) || !same(two, x.Snapshot()) {
		t.Errorf("P15.6: Window(1) has %d events, Window(2) %d", len(one), len(two))
	}
}
