package file

import (
	"bytes"
	"cmp"
	"slices"

	"hindsight/api"
	"hindsight/frame"
	"hindsight/merge"
	"hindsight/stacks"
	"hindsight/stream"
	"hindsight/strtab"
)

// load reads a file. The order of its steps is the order in which a file's faults are told.
func load(b []byte) []api.Event {
	giveUpIf(len(b) > api.MaxFile, api.ErrLarge)
	r := opened(split(b))
	forest := r.forest(r.table())
	t, ids := r.events()
	for k, id := range ids {
		t[k].Stack = sure(forest.Stack(id))
	}
	giveUpOn(boundsFault(t))
	giveUpIf(!bytes.Equal(written(t, r.head.Limit), b), api.ErrForm2)
	return t
}

// peek reads a file's head alone.
func peek(b []byte) api.Head {
	first, _, fault := frame.Decode(b, 0)
	giveUpOn(fault)
	return headOf(first)
}

// split reads the frames of a file, each of which must know its place.
func split(b []byte) frames {
	fs, _, fault := frame.Split(b)
	giveUpOn(fault)
	for k, f := range fs {
		giveUpIf(f.Ord != k, api.ErrPlace)
	}
	return fs
}

// headOf reads the first frame of a file.
func headOf(f api.Frame) api.Head {
	giveUpIf(f.Kind != api.FrameHead || f.Stream != 0 || f.Ord != 0, api.ErrHead)
	return sure(frame.DecodeHead(f.Body))
}

// footOf reads the last one.
func footOf(f api.Frame) api.Foot {
	giveUpIf(f.Kind != api.FrameFoot || f.Stream != 0, api.ErrFoot)
	return sure(frame.DecodeFoot(f.Body))
}

// reader goes through the frames between a file's head and its foot.
type reader struct {
	head api.Head
	left frames
}

// opened is a reader of a file whose head and foot are good, and whose other frames stand where they may.
func opened(fs frames) *reader {
	giveUpIf(len(fs) == 0, api.ErrHead)
	last := len(fs) - 1
	head := headOf(fs[0])
	// Of a file of one frame that is its head, which is no foot.
	giveUpIf(footOf(fs[last]) != fs[:last].foot(), api.ErrTotal)
	inner := fs[1:last]
	giveUpIf(!inner.inPlace(), api.ErrPlace)
	return &reader{head, inner}
}

// inPlace tells whether frames may stand so between a head and a foot.
func (fs frames) inPlace() bool {
	for _, f := range fs {
		if f.Kind < api.FrameStrings || f.Kind > api.FrameEvents || f.Kind != api.FrameEvents && f.Stream != 0 {
			return false
		}
	}
	return slices.IsSortedFunc(fs, func(a, b api.Frame) int {
		return cmp.Or(cmp.Compare(a.Kind, b.Kind), cmp.Compare(a.Stream, b.Stream))
	})
}

// take answers the bodies of a kind and a stream with which the frames that are left begin.
func (r *reader) take(kind, stream int) [][]byte {
	var bodies [][]byte
	for len(r.left) > 0 && r.left[0].Kind == kind && r.left[0].Stream == stream {
		bodies = append(bodies, r.left[0].Body)
		r.left = r.left[1:]
	}
	return bodies
}

func (r *reader) table() *strtab.Table {
	table := sure(strtab.Decode(r.take(api.FrameStrings, 0), r.head.Limit))
	giveUpIf(table.Len() != r.head.Strings, api.ErrTotal)
	return table
}

func (r *reader) forest(table *strtab.Table) *stacks.Forest {
	forest := sure(stacks.Decode(table, r.take(api.FrameStacks, 0), r.head.Limit))
	giveUpIf(forest.Len() != r.head.Nodes, api.ErrTotal)
	return forest
}

// events are those of all rows, without their stacks, and the stacks' numbers.
func (r *reader) events() ([]api.Event, []int) {
	t, ids, fault := merge.Merge(r.rows())
	giveUpOn(fault)
	giveUpIf(len(t) != r.head.Events, api.ErrTotal)
	return t, ids
}

// rows reads the streams. Behind the row with which there are too many records none is kept: that there are
// too many is told of the rest, too, and a file can have many times as many as a trace.
func (r *reader) rows() []api.Row {
	var rows []api.Row
	streams, records := 0, 0
	for len(r.left) > 0 {
		g := r.left[0].Stream
		recs := sure(stream.Decode(r.take(api.FrameEvents, g), r.head.Limit))
		if records <= api.MaxEvents {
			rows = append(rows, api.Row{G: g, Recs: recs})
		}
		streams++
		records += len(recs)
	}
	giveUpIf(streams != r.head.Streams, api.ErrTotal)
	return rows
}
