package salvage

import (
	"hindsight/api"
	"hindsight/event"
	"hindsight/frame"
	"hindsight/stream"
)

// finds is what the walk finds: the strings, the nodes and the chunks of events that the whole frames tell,
// and the bytes that are bad.
type finds struct {
	texts  firsts[string]
	nodes  firsts[node]
	chunks []api.Frame
	bad    spans
}

// walk goes from frame to frame, each where the one ahead of it ends.
func walk(b []byte) *finds {
	found := &finds{}
walk:
	for at, end := 0, 0; at < len(b); at = end {
		var stands bool
		end, stands = reach(b, at)
		f, _, fault := frame.Decode(b, at)
		switch {
		case !stands:
			// Where the next frame begins nobody knows; what looks like one may be part of a string.
			found.bad.add(at, len(b))
			break walk
		case fault != api.OK:
			found.bad.add(at, end)
			continue walk
		}
		found.take(f)
	}
	return found
}

// take keeps what a whole frame tells.
func (s *finds) take(f api.Frame) {
	switch {
	case f.Kind == api.FrameStrings && f.Stream == 0:
		s.texts.tell(readTexts(f.Body))
	case f.Kind == api.FrameStacks && f.Stream == 0:
		s.nodes.tell(readNodes(f.Body))
	case f.Kind == api.FrameEvents:
		// Not read yet: which records are sure, hangs on the strings and nodes of all frames. And a record
		// takes many times the room that its bytes do.
		s.chunks = append(s.chunks, f)
	}
}

// events are those of the sure records, by their stamps.
func (s *finds) events() *firsts[api.Event] {
	events := &firsts[api.Event]{}
	for _, c := range s.chunks {
		recs, _ := stream.Chunk(c.Body) // none, if it can't be read
		for _, r := range recs {
			if events.of(r.Stamp) != nil {
				continue
			}
			if e, sure := s.event(c.Stream, r); sure {
				events.put(r.Stamp, e)
			}
		}
	}
	return events
}

// event is that of a goroutine's record, and whether the record is sure.
func (s *finds) event(g int, r api.Rec) (api.Event, bool) {
	stack, known := s.stack(r.Stack)
	e := api.Event{G: g, Kind: r.Kind, Obj: r.Obj, Arg: r.Arg, Stack: stack}
	return e, known && event.Check(e) == api.OK
}

// stack is the stack of a number, and whether it is known. A parent has a lesser number, so the way ends.
func (s *finds) stack(id int) ([]string, bool) {
	var stack []string
	for id > 0 {
		n := s.nodes.of(id)
		if n == nil || len(stack) == api.MaxDepth {
			return nil, false
		}
		text := s.texts.of(n.frame)
		if text == nil {
			return nil, false
		}
		stack = append(stack, *text)
		id = n.parent
	}
	return stack, true
}
