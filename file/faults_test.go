package file_test

import (
	"bytes"
	"slices"

	"hindsight/api"
	"hindsight/crc"
	"hindsight/frame"
	"hindsight/samples"
	"hindsight/stream"
	"hindsight/wire"
)

// fault is one thing that is wrong with a file, all else put right. Where it is done it is told by which of
// its functions there are: at the draft, at the frames ahead of their being numbered and the foot's being
// made, at the frames behind that, at the bytes.
type fault struct {
	name     string
	step     int // ten times that of P11.2; what comes behind the first thing in it has more
	want     api.Errno
	draft    func(d *draft)
	frames   func(fs []api.Frame) []api.Frame
	numbered func(fs []api.Frame)
	bytes    func(b []byte) []byte
}

// faultyFile is that of a trace, with faults.
func faultyFile(t []api.Event, limit int, with ...fault) []byte {
	d := drafted(t, limit)
	for _, f := range with {
		if f.draft != nil {
			f.draft(d)
		}
	}
	fs := d.frames()
	for _, f := range with {
		if f.frames != nil {
			fs = f.frames(fs)
		}
	}
	fs = samples.Placed(fs)
	for _, f := range with {
		if f.numbered != nil {
			f.numbered(fs)
		}
	}
	b := samples.Joined(fs)
	for _, f := range with {
		if f.bytes != nil {
			b = f.bytes(b)
		}
	}
	return b
}

// firstOf and lastOf are the places of the first and of the last frame of a kind.
func firstOf(fs []api.Frame, kind int) int {
	return slices.IndexFunc(fs, func(f api.Frame) bool { return f.Kind == kind })
}

func lastOf(fs []api.Frame, kind int) int {
	for k, f := range slices.Backward(fs) {
		if f.Kind == kind {
			return k
		}
	}
	return -1
}

// behindLast puts bytes behind the last body of a kind.
func behindLast(kind int, more ...byte) func(fs []api.Frame) []api.Frame {
	return func(fs []api.Frame) []api.Frame {
		f := &fs[lastOf(fs, kind)]
		f.Body = slices.Concat(f.Body, more)
		return fs
	}
}

// instead puts another body into the first frame of a kind.
func instead(kind int, body ...byte) func(fs []api.Frame) []api.Frame {
	return func(fs []api.Frame) []api.Frame {
		fs[firstOf(fs, kind)].Body = body
		return fs
	}
}

// without takes the last frame of a kind away.
func without(kind int) func(fs []api.Frame) []api.Frame {
	return func(fs []api.Frame) []api.Frame {
		k := lastOf(fs, kind)
		return slices.Delete(fs, k, k+1)
	}
}

// ahead puts a frame ahead of the first one of a kind.
func ahead(kind int, f api.Frame) func(fs []api.Frame) []api.Frame {
	return func(fs []api.Frame) []api.Frame {
		return slices.Insert(fs, firstOf(fs, kind), f)
	}
}

// change changes the first or the last frame of a kind.
func change(place func(fs []api.Frame, kind int) int, kind int, do func(f *api.Frame)) func(fs []api.Frame) []api.Frame {
	return func(fs []api.Frame) []api.Frame {
		do(&fs[place(fs, kind)])
		return fs
	}
}

func head(do func(h *api.Head)) func(fs []api.Frame) []api.Frame {
	return func(fs []api.Frame) []api.Frame {
		h, _ := frame.DecodeHead(fs[0].Body)
		do(&h)
		fs[0].Body, _ = frame.EncodeHead(h)
		return fs
	}
}

// swap makes the bodies of two frames that follow one another change places.
func swap(place func(fs []api.Frame) int) func(fs []api.Frame) []api.Frame {
	return func(fs []api.Frame) []api.Frame {
		k := place(fs)
		fs[k].Body, fs[k+1].Body = fs[k+1].Body, fs[k].Body
		return fs
	}
}

// top is that of a frame, with a right check sum.
func top(kind byte, n uint32) []byte {
	b := []byte{167, kind, 0, 0, 0, 0, 0, 0, byte(n), byte(n >> 8), byte(n >> 16), byte(n >> 24)}
	sum := crc.Sum(b)
	return append(b, byte(sum), byte(sum>>8), byte(sum>>16), byte(sum>>24))
}

func behind(more ...byte) func(b []byte) []byte {
	return func(b []byte) []byte { return slices.Concat(b, more) }
}

// outerFaults are those of the steps 2 to 5: the frames, their numbers, the head and the foot.
func outerFaults() []fault {
	over := bytes.Repeat([]byte{255}, 11)
	foot := func(do func(f *api.Foot)) func(fs []api.Frame) {
		return func(fs []api.Frame) {
			last := &fs[len(fs)-1]
			f, _ := frame.DecodeFoot(last.Body)
			do(&f)
			last.Body, _ = frame.EncodeFoot(f)
		}
	}
	footBody := func(body ...byte) func(fs []api.Frame) {
		return func(fs []api.Frame) { fs[len(fs)-1].Body = body }
	}
	return []fault{
		{name: "a byte behind it", step: 20, want: api.ErrMagic, bytes: behind(0)},
		{name: "a magic byte behind it", step: 20, want: api.ErrEnd, bytes: behind(167)},
		{name: "cut by one byte", step: 20, want: api.ErrEnd, bytes: func(b []byte) []byte { return b[:len(b)-1] }},
		{name: "a bit of the head turned", step: 20, want: api.ErrSum, bytes: func(b []byte) []byte { b[17] ^= 4; return b }},
		{name: "a frame of no kind behind it", step: 20, want: api.ErrField, bytes: behind(top(0, 0)...)},
		{name: "a frame too long behind it", step: 20, want: api.ErrBody, bytes: behind(top(4, 2097153)...)},

		{name: "the first Ord is 1", step: 30, want: api.ErrPlace, numbered: func(fs []api.Frame) { fs[0].Ord = 1 }},
		{name: "the last Ord is greater", step: 30, want: api.ErrPlace, numbered: func(fs []api.Frame) { fs[len(fs)-1].Ord++ }},
		{name: "two Ords change places", step: 30, want: api.ErrPlace, numbered: func(fs []api.Frame) { fs[1].Ord, fs[2].Ord = 2, 1 }},
		{name: "an Ord is the greatest", step: 30, want: api.ErrPlace, numbered: func(fs []api.Frame) { fs[1].Ord = 1<<32 - 1 }},

		{name: "no head", step: 40, want: api.ErrHead, frames: func(fs []api.Frame) []api.Frame { return fs[1:] }},
		{name: "the head is of the kind 2", step: 40, want: api.ErrHead, frames: change(firstOf, 1, func(f *api.Frame) { f.Kind = 2 })},
		{name: "the head is of the kind 5", step: 40, want: api.ErrHead, frames: change(firstOf, 1, func(f *api.Frame) { f.Kind = 5 })},
		{name: "the head is of the kind 255", step: 40, want: api.ErrHead, frames: change(firstOf, 1, func(f *api.Frame) { f.Kind = 255 })},
		{name: "the head's Stream is 1", step: 40, want: api.ErrHead, frames: change(firstOf, 1, func(f *api.Frame) { f.Stream = 1 })},
		{name: "the head's Stream is the greatest", step: 40, want: api.ErrHead, frames: change(firstOf, 1, func(f *api.Frame) { f.Stream = 65535 })},
		{name: "a head without a body", step: 45, want: api.ErrEnd, frames: instead(1)},
		{name: "a head of another form", step: 45, want: api.ErrField, frames: instead(1, 2, 64, 0, 0, 0, 0)},
		{name: "a head with a limit below the least", step: 45, want: api.ErrField, frames: instead(1, 1, 63, 0, 0, 0, 0)},
		{name: "a byte behind the head", step: 45, want: api.ErrBody, frames: change(firstOf, 1, func(f *api.Frame) { f.Body = append(f.Body, 0) })},
		{name: "a long number in the head", step: 45, want: api.ErrLong, frames: instead(1, 1, 192, 0, 0, 0, 0, 0)},
		{name: "a number of too many bits in the head", step: 45, want: api.ErrOver, frames: instead(1, append([]byte{1, 64}, over...)...)},

		{name: "no foot", step: 50, want: api.ErrFoot, frames: func(fs []api.Frame) []api.Frame { return fs[:len(fs)-1] }},
		{name: "the foot is of the kind 4", step: 50, want: api.ErrFoot, numbered: func(fs []api.Frame) { fs[len(fs)-1].Kind = 4 }},
		{name: "the foot is of the kind 1", step: 50, want: api.ErrFoot, numbered: func(fs []api.Frame) { fs[len(fs)-1].Kind = 1 }},
		{name: "the foot is of the kind 6", step: 50, want: api.ErrFoot, numbered: func(fs []api.Frame) { fs[len(fs)-1].Kind = 6 }},
		{name: "the foot's Stream is 1", step: 50, want: api.ErrFoot, numbered: func(fs []api.Frame) { fs[len(fs)-1].Stream = 1 }},
		{name: "a frame behind the foot", step: 50, want: api.ErrFoot, frames: func(fs []api.Frame) []api.Frame { return append(fs, api.Frame{Kind: 4, Body: []byte{22, 0}}) }},
		{name: "a foot without a body", step: 53, want: api.ErrEnd, numbered: footBody()},
		{name: "a foot without its sum", step: 53, want: api.ErrEnd, numbered: footBody(9, 0, 0, 0)},
		{name: "a byte behind the foot", step: 53, want: api.ErrBody, numbered: footBody(9, 0, 0, 0, 0, 0)},
		{name: "a long number in the foot", step: 53, want: api.ErrLong, numbered: footBody(137, 0, 0, 0, 0, 0)},
		{name: "a foot that tells too many frames", step: 53, want: api.ErrField, numbered: footBody(128, 128, 128, 128, 16, 0, 0, 0, 0)},
		{name: "a foot that tells a frame more", step: 56, want: api.ErrTotal, numbered: foot(func(f *api.Foot) { f.Frames++ })},
		{name: "a foot that tells a frame less", step: 56, want: api.ErrTotal, numbered: foot(func(f *api.Foot) { f.Frames-- })},
		{name: "a foot that tells no frames", step: 56, want: api.ErrTotal, numbered: foot(func(f *api.Foot) { f.Frames = 0 })},
		{name: "a foot with another sum", step: 56, want: api.ErrTotal, numbered: foot(func(f *api.Foot) { f.Sum ^= 1 << 31 })},
		{name: "a foot with the sum of the frames' bytes", step: 56, want: api.ErrTotal, numbered: func(fs []api.Frame) {
			foot(func(f *api.Foot) { f.Sum = crc.Sum(samples.Joined(fs[:len(fs)-1])) })(fs)
		}},
		{name: "a foot whose sum leaves the head out", step: 56, want: api.ErrTotal, numbered: func(fs []api.Frame) {
			var all []byte
			for _, f := range fs[1 : len(fs)-1] {
				all = append(all, f.Body...)
			}
			foot(func(f *api.Foot) { f.Sum = crc.Sum(all) })(fs)
		}},
	}
}

// placeFaults are those of step 6.
func placeFaults() []fault {
	var out []fault
	add := func(name string, frames func(fs []api.Frame) []api.Frame) {
		out = append(out, fault{name: name, step: 60, want: api.ErrPlace, frames: frames})
	}
	for _, kind := range []int{1, 5, 6, 255} {
		add("a frame of a kind that has no place", change(lastOf, 2, func(f *api.Frame) { f.Kind = kind }))
		add("such a one among the records", change(firstOf, 4, func(f *api.Frame) { f.Kind = kind }))
		add("such a one put between", ahead(3, api.Frame{Kind: kind, Body: []byte{1, 64, 0, 0, 0, 0}}))
	}
	add("strings behind stacks", change(lastOf, 3, func(f *api.Frame) { f.Kind = 2 }))
	add("stacks ahead of strings", change(firstOf, 2, func(f *api.Frame) { f.Kind = 3 }))
	add("records ahead of strings", change(firstOf, 2, func(f *api.Frame) { f.Kind = 4 }))
	add("records ahead of stacks", change(lastOf, 2, func(f *api.Frame) { f.Kind = 4 }))
	add("stacks behind records", change(lastOf, 4, func(f *api.Frame) { f.Kind, f.Stream = 3, 0 }))
	for _, stream := range []int{1, 65535} {
		add("strings of a goroutine", change(firstOf, 2, func(f *api.Frame) { f.Stream = stream }))
		add("the last strings of a goroutine", change(lastOf, 2, func(f *api.Frame) { f.Stream = stream }))
		add("stacks of a goroutine", change(firstOf, 3, func(f *api.Frame) { f.Stream = stream }))
		add("the last stacks of a goroutine", change(lastOf, 3, func(f *api.Frame) { f.Stream = stream }))
	}
	add("records of a lesser goroutine behind", change(lastOf, 4, func(f *api.Frame) { f.Stream-- }))
	add("records of a greater goroutine ahead", change(firstOf, 4, func(f *api.Frame) { f.Stream = 65535 }))
	return out
}

// stringFaults are those of step 7.
func stringFaults() []fault {
	twice := func(d *draft) { d.texts = slices.Insert(d.texts, 1, d.texts[0]) }
	return []fault{
		{name: "no bytes of strings", step: 70, want: api.ErrEnd, frames: instead(2)},
		{name: "strings that begin with another number", step: 70, want: api.ErrForm, frames: instead(2, 1, 1, 97)},
		{name: "strings without a string", step: 70, want: api.ErrForm, frames: instead(2, 0)},
		{name: "a string's length cut", step: 70, want: api.ErrEnd, frames: behindLast(2, 128)},
		{name: "a string's length too long", step: 70, want: api.ErrLong, frames: behindLast(2, 128, 0)},
		{name: "a string's length of too many bits", step: 70, want: api.ErrOver, frames: behindLast(2, bytes.Repeat([]byte{255}, 10)...)},
		{name: "a string cut", step: 70, want: api.ErrTake, frames: behindLast(2, 2, 97)},
		{name: "a string that is too long", step: 70, want: api.ErrLarge, frames: behindLast(2, 129, 128, 4)},
		{name: "a string twice", step: 70, want: api.ErrTwice, draft: twice},
		{name: "a limit for which all is cut in another way", step: 70, want: api.ErrChunk, frames: head(func(h *api.Head) { h.Limit = 1048576 })},
		{name: "strings cut ahead of their time", step: 70, want: api.ErrChunk, frames: func(fs []api.Frame) []api.Frame {
			d := drafted(rich(), 1000)
			fs = slices.DeleteFunc(fs, func(f api.Frame) bool { return f.Kind == 2 })
			for _, f := range slices.Backward(d.frames()) {
				if f.Kind == 2 {
					fs = slices.Insert(fs, 1, f)
				}
			}
			return fs
		}},
		{name: "the last strings are missing", step: 75, want: api.ErrTotal, frames: without(2)},
		{name: "a string more is told", step: 75, want: api.ErrTotal, frames: head(func(h *api.Head) { h.Strings++ })},
		{name: "a string less is told", step: 75, want: api.ErrTotal, frames: head(func(h *api.Head) { h.Strings-- })},
		{name: "no strings are told", step: 75, want: api.ErrTotal, frames: head(func(h *api.Head) { h.Strings = 0 })},
	}
}

// nodeFaults are those of step 8.
func nodeFaults() []fault {
	deep := func(d *draft) {
		for id := range d.nodes {
			if d.depth(id+1) == 16 {
				d.nodes = slices.Insert(d.nodes, id+1, node{id + 1, 0})
				return
			}
		}
		panic("the test's own trace is not deep enough")
	}
	return []fault{
		{name: "no bytes of nodes", step: 80, want: api.ErrEnd, frames: instead(3)},
		{name: "nodes that begin with another number", step: 80, want: api.ErrForm, frames: instead(3, 2, 0, 0)},
		{name: "nodes without a node", step: 80, want: api.ErrForm, frames: instead(3, 1)},
		{name: "a node cut", step: 80, want: api.ErrEnd, frames: behindLast(3, 0)},
		{name: "a node's number too long", step: 80, want: api.ErrLong, frames: behindLast(3, 128, 0)},
		{name: "a node under one that is not there", step: 80, want: api.ErrNode, frames: behindLast(3, 255, 255, 3, 0)},
		{name: "a node twice", step: 80, want: api.ErrNode, draft: func(d *draft) { d.nodes = slices.Insert(d.nodes, 1, d.nodes[0]) }},
		{name: "a node of a string that is not there", step: 80, want: api.ErrString, frames: behindLast(3, 0, 255, 255, 3)},
		{name: "a node too deep", step: 80, want: api.ErrDeep, draft: deep},
		{name: "nodes cut ahead of their time", step: 80, want: api.ErrChunk, frames: func(fs []api.Frame) []api.Frame {
			f := &fs[lastOf(fs, 3)]
			first, at, _ := wire.ReadUvarint(f.Body, 0)
			_, next, _ := wire.ReadUvarint(f.Body, at)
			_, next, _ = wire.ReadUvarint(f.Body, next)
			rest := append(wire.Uvarint(first+1), f.Body[next:]...)
			f.Body = f.Body[:next]
			return slices.Insert(fs, lastOf(fs, 3)+1, api.Frame{Kind: 3, Body: rest})
		}},
		{name: "the last nodes are missing", step: 85, want: api.ErrTotal, frames: without(3)},
		{name: "a node more is told", step: 85, want: api.ErrTotal, frames: head(func(h *api.Head) { h.Nodes++ })},
		{name: "a node less is told", step: 85, want: api.ErrTotal, frames: head(func(h *api.Head) { h.Nodes-- })},
	}
}

func (d *draft) depth(id int) int {
	n := 0
	for ; id > 0; id = d.nodes[id-1].parent {
		n++
	}
	return n
}

// rowFaults are those of the steps 9 and 10.
func rowFaults() []fault {
	cut := func(fs []api.Frame) []api.Frame {
		k := lastOf(fs, 4)
		recs, _ := stream.Chunk(fs[k].Body)
		one, _ := stream.Encode(recs[:1], maxLimit)
		rest, _ := stream.Encode(recs[1:], maxLimit)
		f := fs[k]
		fs[k].Body, f.Body = one[0], rest[0]
		return slices.Insert(fs, k+1, f)
	}
	double := func(d *draft) {
		r := d.rows[1].Recs[1]
		k := slices.IndexFunc(d.rows[0].Recs, r.Before)
		d.rows[0].Recs = slices.Insert(d.rows[0].Recs, k, r)
	}
	return []fault{
		{name: "no bytes of records", step: 90, want: api.ErrForm, frames: instead(4)},
		{name: "no bytes behind the records", step: 90, want: api.ErrForm, frames: func(fs []api.Frame) []api.Frame {
			k := lastOf(fs, 4)
			return slices.Insert(fs, k+1, api.Frame{Kind: 4, Stream: fs[k].Stream})
		}},
		{name: "a record of no kind", step: 90, want: api.ErrKind, frames: behindLast(4, 0, 0)},
		{name: "a record of the kind 23", step: 90, want: api.ErrKind, frames: behindLast(4, 23, 0)},
		{name: "a record cut", step: 90, want: api.ErrEnd, frames: behindLast(4, 22)},
		{name: "a record's number too long", step: 90, want: api.ErrLong, frames: behindLast(4, 22, 128, 0)},
		{name: "a record's number of too many bits", step: 90, want: api.ErrOver, frames: behindLast(4, append([]byte{22}, bytes.Repeat([]byte{255}, 10)...)...)},
		{name: "a stamp beyond the last one", step: 90, want: api.ErrStamp, frames: behindLast(4, 22, 128, 128, 64)},
		{name: "a record that tells what is the same", step: 90, want: api.ErrRec, frames: behindLast(4, 22+64, 0, 0)},
		{name: "two bodies of records change places", step: 90, want: api.ErrOrder, frames: swap(func(fs []api.Frame) int { return firstOf(fs, 4) })},
		{name: "the last two bodies of records change places", step: 90, want: api.ErrOrder, frames: swap(func(fs []api.Frame) int { return lastOf(fs, 4) - 1 })},
		{name: "records cut ahead of their time", step: 90, want: api.ErrChunk, frames: cut},
		{name: "a stream more is told", step: 95, want: api.ErrTotal, frames: head(func(h *api.Head) { h.Streams++ })},
		{name: "a stream less is told", step: 95, want: api.ErrTotal, frames: head(func(h *api.Head) { h.Streams-- })},
		{name: "a stream falls in two", step: 95, want: api.ErrTotal, frames: func(fs []api.Frame) []api.Frame {
			// What stands in the last body of the stream 3 is cut right as a stream of its own, too.
			k := firstOf(fs, 4)
			for fs[k].Stream != 65535 {
				k++
			}
			fs[k-1].Stream = 4
			return fs
		}},
		{name: "a record is missing", step: 100, want: api.ErrGap, draft: func(d *draft) { d.rows[0].Recs = d.rows[0].Recs[1:] }},
		{name: "the first record is missing", step: 100, want: api.ErrGap, draft: func(d *draft) { d.each(func(_ int, r *api.Rec) { r.Stamp++ }) }},
		{name: "a goroutine is missing", step: 100, want: api.ErrGap, draft: func(d *draft) { d.rows = d.rows[1:] }},
		{name: "a record in two rows", step: 100, want: api.ErrDouble, draft: double},
		{name: "an event more is told", step: 105, want: api.ErrTotal, frames: head(func(h *api.Head) { h.Events++ })},
		{name: "an event less is told", step: 105, want: api.ErrTotal, frames: head(func(h *api.Head) { h.Events-- })},
		{name: "no events are told", step: 105, want: api.ErrTotal, frames: head(func(h *api.Head) { h.Events = 0 })},
	}
}

// eventFaults are those of the steps 11 and 12.
func eventFaults() []fault {
	last := func(do func(d *draft, r *api.Rec)) func(d *draft) {
		return func(d *draft) {
			recs := d.rows[len(d.rows)-1].Recs
			do(d, &recs[len(recs)-1])
		}
	}
	first := func(do func(d *draft, r *api.Rec)) func(d *draft) {
		return func(d *draft) { do(d, &d.rows[0].Recs[0]) }
	}
	return []fault{
		{name: "a stack that is not there", step: 110, want: api.ErrStack, draft: last(func(d *draft, r *api.Rec) { r.Stack = len(d.nodes) + 1 })},
		{name: "a stack far beyond those that are there", step: 110, want: api.ErrStack, draft: first(func(d *draft, r *api.Rec) { r.Stack = 262144 })},
		{name: "an object that may not be", step: 115, want: api.ErrObj, draft: first(func(d *draft, r *api.Rec) { r.Kind, r.Obj, r.Arg = api.Fork, 1, 1 })},
		{name: "bytes beyond the last one", step: 115, want: api.ErrObj, draft: first(func(d *draft, r *api.Rec) { r.Kind, r.Obj, r.Arg = api.Write, 1<<64-1, 2 })},
		{name: "a size that may not be", step: 115, want: api.ErrSize, draft: first(func(d *draft, r *api.Rec) { r.Kind, r.Arg = api.Read, 0 })},
		{name: "an argument that may not be", step: 115, want: api.ErrSize, draft: first(func(d *draft, r *api.Rec) { r.Kind, r.Arg = api.Acquire, 7 })},
		{name: "a string that no stack has", step: 120, want: api.ErrForm2, draft: func(d *draft) { d.texts = append(d.texts, "nobody's") }},
		{name: "a string that no stack has, ahead", step: 120, want: api.ErrForm2, draft: func(d *draft) {
			d.texts = slices.Insert(d.texts, 0, "nobody's")
			for k := range d.nodes {
				d.nodes[k].frame++
			}
		}},
		{name: "a node that no event has", step: 120, want: api.ErrForm2, draft: func(d *draft) { d.nodes = append(d.nodes, node{0, len(d.texts) - 1}) }},
		{name: "two strings have changed places", step: 120, want: api.ErrForm2, draft: func(d *draft) {
			d.texts[0], d.texts[1] = d.texts[1], d.texts[0]
			for k, n := range d.nodes {
				if n.frame < 2 {
					d.nodes[k].frame = 1 - n.frame
				}
			}
		}},
		{name: "two nodes have changed places", step: 120, want: api.ErrForm2, draft: swapLeaves},
	}
}

// swapLeaves makes two nodes under which there are none change places, and all that points to them.
func swapLeaves(d *draft) {
	leaf := func(id int) bool {
		return !slices.ContainsFunc(d.nodes, func(n node) bool { return n.parent == id })
	}
	for b := len(d.nodes); b > 0; b-- {
		for a := b - 1; a > d.nodes[b-1].parent; a-- {
			if !leaf(a) || !leaf(b) {
				continue
			}
			d.nodes[a-1], d.nodes[b-1] = d.nodes[b-1], d.nodes[a-1]
			d.each(func(_ int, r *api.Rec) {
				switch r.Stack {
				case a:
					r.Stack = b
				case b:
					r.Stack = a
				}
			})
			return
		}
	}
	panic("the test's own trace has no two nodes that can change places")
}

func allFaults() []fault {
	return slices.Concat(outerFaults(), placeFaults(), stringFaults(), nodeFaults(), rowFaults(), eventFaults())
}
