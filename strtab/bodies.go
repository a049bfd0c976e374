package strtab

import (
	"hindsight/api"
	"hindsight/chunk"
	"hindsight/wire"
)

// Encode writes the strings into bodies of a size limit.
func (t *Table) Encode(limit int) ([][]byte, api.Errno) {
	if t == nil {
		return nil, api.ErrNil
	}
	if !chunk.LimitMayBe(limit) {
		return nil, api.ErrArg
	}
	return t.bodies(limit), api.OK
}

// Decode reads them back.
func Decode(bodies [][]byte, limit int) (*Table, api.Errno) {
	if !chunk.LimitMayBe(limit) {
		return nil, api.ErrArg
	}
	t := New()
	for _, body := range bodies {
		if fault := t.read(body); fault != api.OK {
			return nil, fault
		}
	}
	if !chunk.Same(bodies, t.bodies(limit)) {
		return nil, api.ErrChunk
	}
	return t, api.OK
}

// bodies writes all strings, for a limit that may be.
func (t *Table) bodies(limit int) [][]byte {
	return chunk.Write(0, len(t.texts), limit, func(id int) []byte {
		s := t.texts[id]
		return append(wire.Uvarint(uint64(len(s))), s...)
	})
}

// read puts the strings of a body behind those of the bodies ahead of it. Where it answers a fault, the
// table has those ahead of the fault already: its caller drops it.
func (t *Table) read(body []byte) api.Errno {
	return chunk.Read(body, len(t.texts), func(at int) (int, api.Errno) {
		return t.readRecord(body, at)
	})
}

// readRecord puts the string of one record into the table, and answers the place behind the record.
func (t *Table) readRecord(body []byte, at int) (int, api.Errno) {
	size, at, fault := wire.ReadUvarint(body, at)
	switch {
	case fault != api.OK:
		return 0, fault
	case size > api.MaxSite:
		return 0, api.ErrLarge
	case size > uint64(len(body)-at):
		return 0, api.ErrTake
	}
	next := at + int(size)
	fresh := len(t.texts)
	id, fault := t.Intern(string(body[at:next]))
	if fault != api.OK {
		return 0, fault
	}
	// A full table too answers an old string's number, so a string twice is never told as ErrLarge.
	if id != fresh {
		return 0, api.ErrTwice
	}
	return next, api.OK
}
