package event_test

import (
	"math/rand"
	"slices"
	"strings"
	"testing"
	"unsafe"

	"hindsight/api"
	"hindsight/event"
	"hindsight/samples"
)

func marks(stacks ...[]string) []api.Event {
	var t []api.Event
	for _, s := range stacks {
		t = append(t, api.Event{Kind: api.Mark, Stack: s})
	}
	return t
}

// single are marks with a stack of one frame each.
func single(frames ...string) []api.Event {
	var t []api.Event
	for _, f := range frames {
		t = append(t, marks([]string{f})...)
	}
	return t
}

func within(t *testing.T, promise string, trace []api.Event) {
	t.Helper()
	if at, e := event.Bounds(trace); at != -1 || e != api.OK {
		t.Errorf("%s: Bounds = %d, %d, want -1, 0", promise, at, e)
	}
}

func faulty(t *testing.T, promise string, trace []api.Event, place int, want api.Errno) {
	t.Helper()
	if at, e := event.Bounds(trace); at != place || e != want {
		t.Errorf("%s: Bounds = %d, %d, want %d, %d", promise, at, e, place, want)
	}
}

func TestBoundsExamples(t *testing.T) {
	within(t, "P6.3", nil)
	within(t, "P6.3", []api.Event{})
	mark := api.Event{Kind: api.Mark}
	within(t, "P6.3", []api.Event{mark, mark, mark})
	faulty(t, "P6.3", []api.Event{mark, {}, mark}, 1, api.ErrKind)
}

// TestBoundsNeedsNoRun: what the events do to each other is not asked.
func TestBoundsNeedsNoRun(t *testing.T) {
	release := api.Event{G: 9, Kind: api.Release, Obj: 4}
	within(t, "P6.3", []api.Event{release, release, {G: 65535, Kind: api.Join, Arg: 65535}, {Kind: api.Free, Arg: 8}})
}

// TestBoundsOfChecks: each fault that Check tells, at each place, also with a later one behind it.
func TestBoundsOfChecks(t *testing.T) {
	of, seen := rules(), samples.Seen{}
	mark := api.Event{Kind: api.Mark, Stack: []string{"f", "main"}}
	for _, bad := range []api.Event{
		{Kind: 23, G: -1},
		{Kind: api.Mark, G: 65536, Stack: make([]string, 17)},
		{Kind: api.Fork, Obj: 1},
		{Kind: api.Read, Obj: 1 << 63},
		{Kind: api.Mark, Stack: make([]string, 17)},
		{Kind: api.Mark, Stack: []string{"f", strings.Repeat("x", api.MaxSite+1)}},
	} {
		want := plainCheck(of, bad)
		seen[want]++
		for place := range 5 {
			trace := slices.Repeat([]api.Event{mark}, 5)
			trace[place] = bad
			faulty(t, "P6.3", trace, place, want)
			faulty(t, "P6.3", trace[:place+1], place, want)
			within(t, "P6.8", trace[:place])
			within(t, "P6.8", trace[place+1:])
			faulty(t, "P6.3", append(trace, api.Event{}, api.Event{Kind: api.Mark, G: -1}), place, want)
		}
	}
	for _, e := range []api.Errno{api.ErrKind, api.ErrG, api.ErrObj, api.ErrSize, api.ErrSite} {
		if seen[e] == 0 {
			t.Errorf("the test asks for no event with the error %d", e)
		}
	}
}

func TestManyEvents(t *testing.T) {
	trace := slices.Repeat([]api.Event{{Kind: api.Mark}}, api.MaxEvents+1)
	within(t, "P6.3", trace[:api.MaxEvents])
	faulty(t, "P6.3", trace, api.MaxEvents, api.ErrLarge)
	trace[api.MaxEvents] = api.Event{}
	faulty(t, "P6.3", trace, api.MaxEvents, api.ErrLarge)
	trace[api.MaxEvents-1] = api.Event{Kind: api.Mark, G: -1}
	faulty(t, "P6.3", trace[:api.MaxEvents], api.MaxEvents-1, api.ErrG)
	trace[0] = api.Event{}
	faulty(t, "P6.3", trace[:api.MaxEvents], 0, api.ErrKind)
	faulty(t, "P6.3", trace, api.MaxEvents, api.ErrLarge)
	faulty(t, "P6.3", append(trace, trace...), api.MaxEvents, api.ErrLarge)
}

// full holds a trace that has no room for new stacks: it may be, old stacks may come again, and each
// of the new ones is refused where it stands, whatever comes behind it.
func full(t *testing.T, trace []api.Event, fresh ...[]string) {
	t.Helper()
	within(t, "P6.3", trace)
	trace = append(slices.Clip(trace), trace[0], trace[len(trace)-1], api.Event{Kind: api.Mark}, trace[len(trace)/2])
	within(t, "P6.3", trace)
	for _, stack := range fresh {
		more := append(slices.Clip(trace), marks(stack)...)
		faulty(t, "P6.3", more, len(trace), api.ErrLarge)
		faulty(t, "P6.3", append(slices.Clip(more), api.Event{}, more[0]), len(trace), api.ErrLarge)
		more[len(trace)].Kind = 0 // the error of Check goes ahead of that of the stack
		faulty(t, "P6.3", more, len(trace), api.ErrKind)
	}
	within(t, "P6.8", trace[:len(trace)/2])
	within(t, "P6.8", trace[1:])
}

func TestManyStrings(t *testing.T) {
	list := samples.Numbered(api.MaxStrings)
	full(t, single(list...), []string{""}, []string{"abc"}, []string{list[0], "abc"}, []string{"abc", list[0]})

	// The frames of one stack count one by one, but twice the same one counts once.
	trace := single(list[:api.MaxStrings-2]...)
	within(t, "P6.3", append(slices.Clip(trace), marks([]string{"abc", "", list[5], "abc", ""})...))
	faulty(t, "P6.3", append(slices.Clip(trace), marks([]string{"abc", "", list[5], "abcd"})...), len(trace), api.ErrLarge)
}

func TestMuchText(t *testing.T) {
	list := samples.Longest(api.MaxText / api.MaxSite)
	full(t, single(list...), []string{"x"}, []string{list[0], "x"}, []string{list[0][1:]})

	trace := single(list...)
	trace = append(trace, single("", "", list[3], "")...) // an empty frame needs no room
	within(t, "P6.3", trace)

	trace = single(list[1:]...)
	within(t, "P6.3", append(slices.Clip(trace), single(list[0][1:], "x")...))
	faulty(t, "P6.3", append(slices.Clip(trace), single(list[0][1:], "xy")...), len(trace)+1, api.ErrLarge)
}

// TestManyNodes: 512 outer frames, each with 511 inner ones, are all the nodes that may be.
func TestManyNodes(t *testing.T) {
	list := samples.Numbered(512)
	var trace []api.Event
	for _, outer := range list {
		for _, inner := range list[1:] {
			trace = append(trace, marks([]string{inner, outer})...)
		}
	}
	full(t, trace, []string{list[0], list[0]}, []string{"abc"}, []string{list[0], list[1], list[0]})
	within(t, "P6.3", append(slices.Clip(trace), marks([]string{list[7]})...))
	faulty(t, "P6.3", append(slices.Clip(trace[1:]), marks([]string{"abc"}, []string{"abcd"})...), len(trace), api.ErrLarge)
}

// TestDeepStacks: the frames count from the outermost in, so stacks that have the inner frames in common
// have no node in common.
func TestDeepStacks(t *testing.T) {
	base := samples.Numbered(15)
	var trace []api.Event
	for _, outer := range samples.Numbered(api.MaxNodes / api.MaxDepth) {
		trace = append(trace, marks(append(slices.Clone(base), outer))...)
	}
	full(t, trace, []string{"abc"}, []string{base[0], base[0]})
	for k := range trace {
		slices.Reverse(trace[k].Stack)
	}
	within(t, "P6.3", append(slices.Clip(trace), single("abc")...))
}

// TestChoices: beginnings of a trace that fills the table of strings, and what is chosen of it.
func TestChoices(t *testing.T) {
	r := rand.New(rand.NewSource(8))
	list := samples.Longest(api.MaxText / api.MaxSite)
	for range 30 {
		trace := single(list...)
		for range 1 + r.Intn(300) {
			e := api.Event{G: r.Intn(65536), Kind: api.Mark, Obj: r.Uint64(), Arg: r.Uint64()}
			for range r.Intn(3) {
				e.Stack = append(e.Stack, list[r.Intn(len(list))])
			}
			trace = append(trace, e)
		}
		within(t, "P6.3", trace)
		within(t, "P6.8", trace[:r.Intn(len(trace)+1)])
		within(t, "P6.8", slices.DeleteFunc(slices.Clone(trace), func(api.Event) bool { return r.Intn(2) == 0 }))
	}
}

// TestBoundsAnew: a call keeps nothing of those before it: all of them together are far beyond the bounds.
func TestBoundsAnew(t *testing.T) {
	for k := range 5 {
		list := samples.Longest(50)
		for n := range list {
			list[n] = list[n][k:]
		}
		within(t, "P0.3", single(list...))
		faulty(t, "P0.3", append(single(list...), api.Event{}), 50, api.ErrKind)
	}
}

// TestLeaves: no call changes a trace, a stack, or the room behind them.
func TestLeaves(t *testing.T) {
	frames := func() []string { return []string{"f", "main", "behind", strings.Repeat("x", api.MaxSite+1)} }
	made := func() []api.Event {
		trace := marks(frames()[:2], frames()[:1], frames()[:0], frames()[:2])
		trace[1].Kind, trace[1].Arg = api.Write, 8
		return append(trace, api.Event{G: -1, Kind: 99, Obj: 7, Stack: frames()})
	}
	trace := made()
	within(t, "P6.3", trace[:4])
	faulty(t, "P6.3", trace, 4, api.ErrKind)
	for _, a := range trace {
		event.Check(a)
		event.Access(a)
		for _, b := range trace {
			event.Clash(a, b)
			event.Same(a, b)
		}
	}
	for k, want := range made() {
		got := trace[k]
		if got.G != want.G || got.Kind != want.Kind || got.Obj != want.Obj || got.Arg != want.Arg || len(got.Stack) != len(want.Stack) {
			t.Errorf("P0.4: event %d is another one", k)
		}
		if !slices.Equal(got.Stack[:4], frames()) {
			t.Errorf("P0.4: the stack of event %d, or the room behind it, is another one", k)
		}
	}
}

// TestKeepsNoFrames: frames over bytes that change later, as their maker knows, are told apart anew.
func TestKeepsNoFrames(t *testing.T) {
	b := []byte(strings.Repeat("x", api.MaxSite))
	frame := unsafe.String(&b[0], len(b))
	list := samples.Longest(63)
	within(t, "P0.4", append(single(list...), single(frame)...))
	b[0] = 'y'
	within(t, "P0.4", append(single(list...), single(frame)...))
	faulty(t, "P0.4", append(single(list...), single(frame, strings.Repeat("x", api.MaxSite))...), 64, api.ErrLarge)
}
