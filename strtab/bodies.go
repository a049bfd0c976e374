package strtab

import (
	"bytes"
	"slices"

	"hindsight/api"
	"hindsight/wire"
)

// Encode writes the strings into bodies of a size limit.
func (t *Table) Encode(limit int) ([][]byte, api.Errno) {
	if t == nil {
		return nil, api.ErrNil
	}
	if !limitMayBe(limit) {
		return nil, api.ErrArg
	}
	return t.bodies(limit), api.OK
}

// Decode reads them back.
func Decode(bodies [][]byte, limit int) (*Table, api.Errno) {
	if !limitMayBe(limit) {
		return nil, api.ErrArg
	}
	t := New()
	for _, body := range bodies {
		if fault := t.read(body); fault != api.OK {
			return nil, fault
		}
	}
	if !slices.EqualFunc(bodies, t.bodies(limit), bytes.Equal) {
		return nil, api.ErrChunk
	}
	return t, api.OK
}

func limitMayBe(limit int) bool {
	return limit >= api.MinLimit && limit <= api.MaxLimit
}

// bodies writes all strings, for a limit that may be.
func (t *Table) bodies(limit int) [][]byte {
	var out [][]byte
	for first := 0; first < len(t.texts); {
		body, next := t.body(first, limit)
		out = append(out, body)
		first = next
	}
	return out
}

// body writes one body: it, and the number of the first string that has no room in it.
func (t *Table) body(first, limit int) ([]byte, int) {
	out := wire.Uvarint(uint64(first))
	for k, s := range t.texts[first:] {
		// The first one needs no room: else a string that is longer than the limit could not be written.
		if k > 0 && len(out)+recordSize(s) > limit {
			return out, first + k
		}
		out = append(out, wire.Uvarint(uint64(len(s)))...)
		out = append(out, s...)
	}
	return out, len(t.texts)
}

func recordSize(s string) int {
	return wire.Size(uint64(len(s))) + len(s)
}

// read puts the strings of a body behind those of the bodies ahead of it. Where it answers a fault, the
// table has those ahead of the fault already: its caller drops it.
func (t *Table) read(body []byte) api.Errno {
	first, at, fault := wire.ReadUvarint(body, 0)
	if fault != api.OK {
		return fault
	}
	if first != uint64(len(t.texts)) || at == len(body) {
		return api.ErrForm
	}
	for at < len(body) {
		if at, fault = t.readRecord(body, at); fault != api.OK {
			return fault
		}
	}
	return api.OK
}

// readRecord puts the string of one record into the table, and answers the place behind the record.
func (t *Table) readRecord(body []byte, at int) (int, api.Errno) {
	size, at, fault := wire.ReadUvarint(body, at)
	switch {
	case fault != api.OK:
		return 0, fault
	case size > api.MaxSite:
		return 0, api.ErrLarge
	case size > uint64(len(body)-at):
		return 0, api.ErrTake
	}
	next := at + int(size)
	fresh := len(t.texts)
	id, fault := t.Intern(string(body[at:next]))
	if fault != api.OK {
		return 0, fault
	}
	// A full table too answers an old string's number, so a string twice is never told as ErrLarge.
	if id != fresh {
		return 0, api.ErrTwice
	}
	return next, api.OK
}
