package flow

import (
	"testing"

	"hindsight/api"
)

// TestKeepsNoMore: what no later event can ask for is not kept.
func TestKeepsNoMore(t *testing.T) {
	f := New()
	take := func(g, kind int, obj, arg uint64) { f.Take(api.Event{G: g, Kind: kind, Obj: obj, Arg: arg}) }
	take(0, api.Make, 1, 0)
	take(0, api.Make, 2, 3)
	for g := 1; g <= 50; g++ {
		take(0, api.Fork, 0, uint64(g))
	}
	for g := 1; g <= 50; g++ {
		take(g, api.Send, 1, 0)
		take(0, api.Recv, 1, 1)
		take(g, api.Ack, 1, 0)
		take(g, api.Send, 2, 0)
		take(0, api.Recv, 2, 1)
		take(0, api.Join, 0, uint64(g))
	}
	bare, roomy := f.objects[name{channelSort, 1}].(*channel), f.objects[name{channelSort, 2}].(*channel)
	if len(f.goroutines) != 1 || len(f.objects) != 2 {
		t.Errorf("it keeps %d goroutines, %d objects", len(f.goroutines), len(f.objects))
	}
	if len(bare.sent) != 0 || len(bare.received) != 0 || len(bare.emptied) != 0 || len(roomy.sent) != 0 || len(roomy.emptied) != 3 {
		t.Errorf("the channels keep %v and %v", bare, roomy)
	}
	take(0, api.Send, 2, 0)
	take(0, api.Send, 2, 0)
	take(0, api.Close, 2, 0)
	take(0, api.Recv, 2, 1)
	if len(roomy.sent) != 1 || len(roomy.emptied) != 0 || roomy.closed == nil {
		t.Errorf("the closed channel keeps %v", roomy)
	}
}

// TestKnows: of the own goroutine all up to the event itself, of others what was learnt.
func TestKnows(t *testing.T) {
	f := New()
	f.Take(api.Event{Kind: api.Fork, Arg: 1})
	f.Take(api.Event{G: 1, Kind: api.Store})
	f.Take(api.Event{G: 1, Kind: api.Mark})
	v := f.Take(api.Event{Kind: api.Load})
	for _, x := range []struct {
		g     uint16
		time  int32
		knows bool
	}{{0, 0, true}, {0, 1, true}, {0, 2, true}, {0, 3, false}, {1, 0, true}, {1, 1, true}, {1, 2, false}, {2, 0, true}, {2, 1, false}} {
		if got := v.Knows(x.g, x.time); got != x.knows {
			t.Errorf("P18.3: the event %d of %d is known: %t", x.time, x.g, got)
		}
	}
}
