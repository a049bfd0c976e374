package samples

import (
	"slices"
	"strings"

	"hindsight/api"
)

// Fault is an event that may not be, and its error.
type Fault struct {
	Event api.Event
	Errno api.Errno
}

// Faults are events that may not be, at the edges of what may be; first one of the kind 0.
func Faults() []Fault {
	const last = 1<<64 - 1
	deep, long := make([]string, api.MaxDepth+1), []string{strings.Repeat("x", api.MaxSite+1)}
	return []Fault{
		{api.Event{}, api.ErrKind},
		{bare(-1, 23, 0, 0), api.ErrKind},
		{bare(0, -1, 0, 0), api.ErrKind},
		{bare(-1, api.Write, 8, 1), api.ErrG},
		{bare(api.MaxG, api.Read, 8, 0), api.ErrG},
		{bare(1<<32, api.Write, 8, 1), api.ErrG},
		{bare(0, api.Fork, 1, 1), api.ErrObj},
		{bare(0, api.Read, last, 2), api.ErrObj},
		{bare(0, api.Write, last-62, 64), api.ErrObj},
		{bare(0, api.Alloc, last, 2), api.ErrObj},
		{bare(0, api.Read, 8, 0), api.ErrSize},
		{bare(0, api.Write, 8, 0), api.ErrSize},
		{bare(0, api.Write, 8, api.MaxSize+1), api.ErrSize},
		{bare(0, api.Read, 8, last), api.ErrSize},
		{bare(0, api.Acquire, 8, 1), api.ErrSize},
		{bare(0, api.Alloc, 8, 0), api.ErrSize},
		{bare(0, api.Free, 8, api.MaxLife+1), api.ErrSize},
		{bare(0, api.Fork, 0, 0), api.ErrSize},
		{bare(0, api.Join, 0, api.MaxG), api.ErrSize},
		{api.Event{Kind: api.Write, Obj: 8, Arg: 1, Stack: deep}, api.ErrSite},
		{api.Event{Kind: api.Mark, Stack: long}, api.ErrSite},
	}
}

// NoRuns are traces that are no runs behind the Fork of the goroutine 1: in each the last event can't come,
// and all ahead of it can. There is one for each reason, in the order of these.
func NoRuns() [][]api.Event {
	join := bare(0, api.Join, 0, 1)
	made := []api.Event{bare(0, api.Make, 7, 0), bare(0, api.Make, 8, 1)}
	behind := func(e ...api.Event) []api.Event { return slices.Concat(made, e) }
	sent := func(e api.Event) []api.Event {
		return behind(bare(1, api.Send, 7, 0), bare(0, api.Send, 8, 0), e)
	}
	return [][]api.Event{
		{bare(2, api.Write, 8, 4)},
		{join, bare(1, api.Write, 8, 4)},
		sent(bare(1, api.Write, 8, 4)),
		{bare(0, api.Acquire, 7, 0), bare(0, api.Acquire, 7, 0)},
		{bare(0, api.Release, 7, 0)},
		{bare(0, api.Acquire, 7, 0), bare(0, api.RAcquire, 7, 0)},
		{bare(0, api.RRelease, 7, 0)},
		{bare(0, api.Fork, 0, 1)},
		{bare(0, api.Join, 0, 2)},
		{join, join},
		{bare(0, api.Join, 0, 0)},
		sent(join),
		behind(bare(1, api.Make, 8, 1)),
		{bare(0, api.Send, 7, 0)},
		behind(bare(0, api.Close, 8, 0), bare(0, api.Send, 8, 0)),
		sent(bare(0, api.Send, 8, 0)),
		behind(bare(0, api.Recv, 8, 1)),
		behind(bare(0, api.Recv, 8, 0)),
		append(sent(bare(0, api.Close, 8, 0)), bare(0, api.Recv, 8, 0)),
		sent(bare(0, api.Close, 7, 0)),
		behind(bare(0, api.Ack, 7, 0)),
		sent(bare(1, api.Ack, 7, 0)),
		{bare(0, api.Add, 7, 1)},
		{bare(0, api.Add, 7, 2), bare(0, api.Wait, 7, 0)},
		{bare(0, api.Once, 7, 1), bare(0, api.Once, 7, 1)},
		{bare(0, api.Once, 7, 0)},
		{bare(0, api.Alloc, 7, 2), bare(0, api.Alloc, 8, 1)},
		{bare(0, api.Free, 8, 4)},
	}
}

// bare is an event without a stack.
func bare(g, kind int, obj, arg uint64) api.Event {
	return api.Event{G: g, Kind: kind, Obj: obj, Arg: arg}
}
