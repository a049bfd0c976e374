package recorder

import (
	"hindsight/api"
	"hindsight/chunk"
	"hindsight/delta"
	"hindsight/event"
	"hindsight/frame"
	"hindsight/stacks"
	"hindsight/strtab"
	"hindsight/wire"
)

// known is what is known of a recording so far.
type known struct {
	frames int // how many
	limit  int // that the head told
	table  *strtab.Table
	forest *stacks.Forest
	events int // how many
}

// nothing is known ahead of the first frame.
func nothing() known {
	table := strtab.New()
	return known{table: table, forest: stacks.New(table)}
}

// follow reads frames off the begin of b, as long as one may be next, hands on the events of each, and
// answers how many bytes these frames take.
func (k *known) follow(b []byte, keep func([]api.Event)) int {
	at := 0
	for {
		f, next, fault := frame.Decode(b, at)
		if fault != api.OK {
			return at
		}
		events, may := k.read(f)
		if !may {
			return at
		}
		keep(events)
		at = next
	}
}

// read takes a frame in, and answers its events, if it may be next. Of one that may not be some strings
// and nodes may have been taken in: then nothing more can be read.
func (k *known) read(f api.Frame) ([]api.Event, bool) {
	if f.Stream != 0 || f.Ord != k.frames {
		return nil, false
	}
	events, fault := k.readBody(f)
	if fault != api.OK {
		return nil, false
	}
	k.frames++
	k.events += len(events)
	return events, true
}

// readBody reads by a frame's kind. (That a head stands first, and nowhere else, is asked here.)
func (k *known) readBody(f api.Frame) ([]api.Event, api.Errno) {
	switch {
	case k.frames == 0 && f.Kind == api.FrameHead:
		return nil, k.readHead(f.Body)
	case k.frames == 0:
		return nil, api.ErrHead
	case f.Kind == api.FrameStrings:
		return nil, k.readStrings(f.Body)
	case f.Kind == api.FrameStacks:
		return nil, k.readNodes(f.Body)
	case f.Kind == api.FrameEvents:
		return k.readEvents(f.Body)
	}
	return nil, api.ErrPlace
}

func (k *known) readHead(body []byte) api.Errno {
	h, fault := frame.DecodeHead(body)
	if fault != api.OK {
		return fault
	}
	// What is to come nobody knows when the head is written.
	if h != (api.Head{Limit: h.Limit}) {
		return api.ErrField
	}
	k.limit = h.Limit
	return api.OK
}

// readStrings reads a body of strings. (Not as strtab.Decode does, which takes all bodies of a table at
// once, cut as they must be.)
func (k *known) readStrings(body []byte) api.Errno {
	return chunk.Read(body, k.table.Len(), func(at int) (int, api.Errno) {
		size, at, fault := wire.ReadUvarint(body, at)
		if fault != api.OK {
			return 0, fault
		}
		if size > uint64(len(body)-at) {
			return 0, api.ErrTake
		}
		next, fresh := at+int(size), k.table.Len()
		id, fault := k.table.Intern(string(body[at:next]))
		if fault == api.OK && id != fresh {
			fault = api.ErrTwice
		}
		return next, fault
	})
}

// readNodes reads a body of nodes, each as the stack that it stands for: a forest takes nothing else.
func (k *known) readNodes(body []byte) api.Errno {
	return chunk.Read(body, k.forest.Len()+1, func(at int) (int, api.Errno) {
		back, at, fault := wire.ReadUvarint(body, at)
		if fault != api.OK {
			return 0, fault
		}
		number, at, fault := wire.ReadUvarint(body, at)
		if fault != api.OK {
			return 0, fault
		}
		return at, k.readNode(back, number)
	})
}

// readNode takes in a node that stands so far behind its parent, with the string of a number.
func (k *known) readNode(back, number uint64) api.Errno {
	last := k.forest.Len()
	if back > uint64(last) {
		return api.ErrNode
	}
	if number >= uint64(k.table.Len()) {
		return api.ErrString
	}
	text, _ := k.table.Text(int(number))
	outer, _ := k.forest.Stack(last - int(back))
	id, fault := k.forest.Intern(append([]string{text}, outer...))
	if fault == api.OK && id <= last {
		// The forest had such a node.
		return api.ErrNode
	}
	return fault
}

// readEvents reads a body of events.
func (k *known) readEvents(body []byte) ([]api.Event, api.Errno) {
	var list []api.Event
	state := api.State{Stamp: k.events}
	fault := chunk.Read(body, k.events, func(at int) (int, api.Errno) {
		g, at, fault := wire.ReadUvarint(body, at)
		if fault != api.OK {
			return 0, fault
		}
		r, next, behind, fault := delta.Get(state, body, at)
		if fault != api.OK {
			return 0, fault
		}
		if r.Stamp != state.Stamp {
			return 0, api.ErrGap
		}
		e, fault := k.event(g, r)
		list, state = append(list, e), behind
		return next, fault
	})
	return list, fault
}

// event is that of a goroutine's record.
func (k *known) event(g uint64, r api.Rec) (api.Event, api.Errno) {
	stack, fault := k.forest.Stack(r.Stack)
	if fault != api.OK {
		return api.Event{}, fault
	}
	// MaxG stands for all numbers that no goroutine has: not all of them are an int.
	e := api.Event{G: int(min(g, api.MaxG)), Kind: r.Kind, Obj: r.Obj, Arg: r.Arg, Stack: stack}
	return e, event.Check(e)
}
