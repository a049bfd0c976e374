package stacks

import (
	"hindsight/api"
	"hindsight/chunk"
	"hindsight/strtab"
	"hindsight/wire"
)

// Encode writes the nodes into bodies of a size limit.
func (f *Forest) Encode(limit int) ([][]byte, api.Errno) {
	if f.missing() {
		return nil, api.ErrNil
	}
	if !chunk.LimitMayBe(limit) {
		return nil, api.ErrArg
	}
	return f.bodies(limit), api.OK
}

// Decode reads them back.
func Decode(t *strtab.Table, bodies [][]byte, limit int) (*Forest, api.Errno) {
	f := New(t)
	if f.missing() {
		return nil, api.ErrNil
	}
	if !chunk.LimitMayBe(limit) {
		return nil, api.ErrArg
	}
	for _, body := range bodies {
		if fault := f.read(body); fault != api.OK {
			return nil, fault
		}
	}
	if !chunk.Same(bodies, f.bodies(limit)) {
		return nil, api.ErrChunk
	}
	return f, api.OK
}

// bodies writes all nodes, for a limit that may be.
func (f *Forest) bodies(limit int) [][]byte {
	return chunk.Write(1, len(f.nodes)+1, limit, func(id int) []byte {
		n := f.nodes[id-1]
		back := wire.Uvarint(uint64(id - 1 - n.parent))
		return append(back, wire.Uvarint(uint64(n.frame))...)
	})
}

// read puts the nodes of a body behind those of the bodies ahead of it. Where it answers a fault, the
// forest has those ahead of the fault already: its caller drops it.
func (f *Forest) read(body []byte) api.Errno {
	return chunk.Read(body, len(f.nodes)+1, func(at int) (int, api.Errno) {
		return f.readRecord(body, at)
	})
}

// readRecord puts the node of one record into the forest, and answers the place behind the record.
func (f *Forest) readRecord(body []byte, at int) (int, api.Errno) {
	last := len(f.nodes)
	back, at, fault := wire.ReadUvarint(body, at)
	if fault != api.OK {
		return 0, fault
	}
	if back > uint64(last) {
		return 0, api.ErrNode
	}
	frame, at, fault := wire.ReadUvarint(body, at)
	if fault != api.OK {
		return 0, fault
	}
	if frame >= uint64(f.table.Len()) {
		return 0, api.ErrString
	}
	n := node{last - int(back), int(frame)}
	if fault := f.refusal(n); fault != api.OK {
		return 0, fault
	}
	f.put(n)
	return at, api.OK
}

// refusal tells why a node over a parent and a frame that there are may not be the next one.
func (f *Forest) refusal(n node) api.Errno {
	switch {
	case f.depth(n.parent) == api.MaxDepth:
		return api.ErrDeep
	case f.ids[n] != 0:
		return api.ErrNode
	case len(f.nodes) == api.MaxNodes:
		return api.ErrLarge
	}
	return api.OK
}

// depth tells how many frames the stack of a number has.
func (f *Forest) depth(id int) int {
	frames := 0
	for ; id > 0; id = f.nodes[id-1].parent {
		frames++
	}
	return frames
}
