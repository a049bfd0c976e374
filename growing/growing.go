// Package growing reads a recording frame by frame, while it grows: what a recorder and a watch know of one
// (chapters 14 and 26).
package growing

import (
	"hindsight/api"
	"hindsight/chunk"
	"hindsight/delta"
	"hindsight/event"
	"hindsight/frame"
	"hindsight/stacks"
	"hindsight/strtab"
	"hindsight/wire"
)

// Recording is what is known of a recording so far.
type Recording struct {
	Frames int // how many
	Limit  int // that the head told
	Table  *strtab.Table
	Forest *stacks.Forest
	Events int // how many
}

// New is what is known ahead of the first frame.
func New() Recording {
	table := strtab.New()
	return Recording{Table: table, Forest: stacks.New(table)}
}

// Follow reads frames off the begin of b, as long as one may be next, and hands on the events of each. It
// answers how many bytes these frames take, and whether another one may come, if there are more bytes.
func (r *Recording) Follow(b []byte, keep func([]api.Event)) (int, bool) {
	at := 0
	for {
		f, next, fault := frame.Decode(b, at)
		if fault != api.OK {
			// Only what ends too early may still become a frame.
			return at, fault == api.ErrEnd
		}
		events, may := r.read(f)
		if !may {
			return at, false
		}
		keep(events)
		at = next
	}
}

// read takes a frame in, and answers its events, if it may be next. Of one that may not be some strings
// and nodes may have been taken in: then nothing more can be read.
func (r *Recording) read(f api.Frame) ([]api.Event, bool) {
	if f.Stream != 0 || f.Ord != r.Frames {
		return nil, false
	}
	events, fault := r.readBody(f)
	if fault != api.OK {
		return nil, false
	}
	r.Frames++
	r.Events += len(events)
	return events, true
}

// readBody reads by a frame's kind. (That a head stands first, and nowhere else, is asked here.)
func (r *Recording) readBody(f api.Frame) ([]api.Event, api.Errno) {
	switch {
	case r.Frames == 0 && f.Kind == api.FrameHead:
		return nil, r.readHead(f.Body)
	case r.Frames == 0:
		return nil, api.ErrHead
	case f.Kind == api.FrameStrings:
		return nil, r.readStrings(f.Body)
	case f.Kind == api.FrameStacks:
		return nil, r.readNodes(f.Body)
	case f.Kind == api.FrameEvents:
		return r.readEvents(f.Body)
	}
	return nil, api.ErrPlace
}

func (r *Recording) readHead(body []byte) api.Errno {
	h, fault := frame.DecodeHead(body)
	if fault != api.OK {
		return fault
	}
	// What is to come nobody knows when the head is written.
	if h != (api.Head{Limit: h.Limit}) {
		return api.ErrField
	}
	r.Limit = h.Limit
	return api.OK
}

// readStrings reads a body of strings. (Not as strtab.Decode does, which takes all bodies of a table at
// once, cut as they must be.)
func (r *Recording) readStrings(body []byte) api.Errno {
	return chunk.Read(body, r.Table.Len(), func(at int) (int, api.Errno) {
		size, at, fault := wire.ReadUvarint(body, at)
		if fault != api.OK {
			return 0, fault
		}
		if size > uint64(len(body)-at) {
			return 0, api.ErrTake
		}
		next, fresh := at+int(size), r.Table.Len()
		id, fault := r.Table.Intern(string(body[at:next]))
		if fault == api.OK && id != fresh {
			fault = api.ErrTwice
		}
		return next, fault
	})
}

// readNodes reads a body of nodes, each as the stack that it stands for: a forest takes nothing else.
func (r *Recording) readNodes(body []byte) api.Errno {
	return chunk.Read(body, r.Forest.Len()+1, func(at int) (int, api.Errno) {
		back, at, fault := wire.ReadUvarint(body, at)
		if fault != api.OK {
			return 0, fault
		}
		number, at, fault := wire.ReadUvarint(body, at)
		if fault != api.OK {
			return 0, fault
		}
		return at, r.readNode(back, number)
	})
}

// readNode takes in a node that stands so far behind its parent, with the string of a number.
func (r *Recording) readNode(back, number uint64) api.Errno {
	last := r.Forest.Len()
	if back > uint64(last) {
		return api.ErrNode
	}
	if number >= uint64(r.Table.Len()) {
		return api.ErrString
	}
	text, _ := r.Table.Text(int(number))
	outer, _ := r.Forest.Stack(last - int(back))
	id, fault := r.Forest.Intern(append([]string{text}, outer...))
	if fault == api.OK && id <= last {
		// The forest had such a node.
		return api.ErrNode
	}
	return fault
}

// readEvents reads a body of events.
func (r *Recording) readEvents(body []byte) ([]api.Event, api.Errno) {
	var list []api.Event
	state := api.State{Stamp: r.Events}
	fault := chunk.Read(body, r.Events, func(at int) (int, api.Errno) {
		g, at, fault := wire.ReadUvarint(body, at)
		if fault != api.OK {
			return 0, fault
		}
		record, next, behind, fault := delta.Get(state, body, at)
		if fault != api.OK {
			return 0, fault
		}
		if record.Stamp != state.Stamp {
			return 0, api.ErrGap
		}
		e, fault := r.event(g, record)
		list, state = append(list, e), behind
		return next, fault
	})
	return list, fault
}

// event is that of a goroutine's record.
func (r *Recording) event(g uint64, record api.Rec) (api.Event, api.Errno) {
	stack, fault := r.Forest.Stack(record.Stack)
	if fault != api.OK {
		return api.Event{}, fault
	}
	// MaxG stands for all numbers that no goroutine has: not all of them are an int.
	e := api.Event{G: int(min(g, api.MaxG)), Kind: record.Kind, Obj: record.Obj, Arg: record.Arg, Stack: stack}
	return e, event.Check(e)
}
