package order

import (
	"testing"

	"hindsight/api"
)

// TestKeepsNoMore: what no later event can ask for is not kept.
func TestKeepsNoMore(t *testing.T) {
	f := newFlow()
	take := func(g, kind int, obj, arg uint64) { f.take(api.Event{G: g, Kind: kind, Obj: obj, Arg: arg}) }
	take(0, api.Make, 1, 0)
	take(0, api.Make, 2, 3)
	for g := 1; g <= 50; g++ {
		take(0, api.Fork, 0, uint64(g))
	}
	for g := 1; g <= 50; g++ {
		take(g, api.Send, 1, 0)
		take(0, api.Recv, 1, 1)
		take(g, api.Ack, 1, 0)
		take(g, api.Send, 2, 0)
		take(0, api.Recv, 2, 1)
		take(0, api.Join, 0, uint64(g))
	}
	bare, roomy := f.objects[name{channelSort, 1}].(*channel), f.objects[name{channelSort, 2}].(*channel)
	if len(f.goroutines) != 1 || len(f.objects) != 2 {
		t.Errorf("it keeps %d goroutines, %d objects", len(f.goroutines), len(f.objects))
	}
	if len(bare.sent) != 0 || len(bare.received) != 0 || len(bare.emptied) != 0 || len(roomy.sent) != 0 || len(roomy.emptied) != 3 {
		t.Errorf("the channels keep %v and %v", bare, roomy)
	}
	take(0, api.Send, 2, 0)
	take(0, api.Send, 2, 0)
	take(0, api.Close, 2, 0)
	take(0, api.Recv, 2, 1)
	if len(roomy.sent) != 1 || len(roomy.emptied) != 0 || roomy.closed == nil {
		t.Errorf("the closed channel keeps %v", roomy)
	}
}
