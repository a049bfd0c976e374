// Package chunk puts numbered records into bodies of a size limit, and takes them off again: the strings
// of chapter 4 and the nodes of chapter 5 are cut alike, in files and in the recordings of chapter 14. (The
// records of chapter 8 have no numbers and are told one against the other: they share the limits, and how
// rows of bodies are compared.)
package chunk

import (
	"bytes"
	"slices"

	"hindsight/api"
	"hindsight/wire"
)

// LimitMayBe tells whether bodies may have a size limit.
func LimitMayBe(limit int) bool {
	return limit >= api.MinLimit && limit <= api.MaxLimit
}

// Write puts the records with the numbers from first on, ahead of end, into bodies; each begins with the
// number of its first record.
func Write(first, end, limit int, record func(id int) []byte) [][]byte {
	var bodies [][]byte
	for id := first; id < end; id++ {
		r := record(id)
		if last := len(bodies) - 1; last >= 0 && len(bodies[last])+len(r) <= limit {
			bodies[last] = append(bodies[last], r...)
			continue
		}
		// The first record of a body needs no room: else one that is longer than the limit could not be written.
		bodies = append(bodies, append(wire.Uvarint(uint64(id)), r...))
	}
	return bodies
}

// Read goes through a body whose first record must have the number first. The function reads the record
// at a place, and answers the place behind it, or what is not right; then nothing more is read.
func Read(body []byte, first int, record func(at int) (int, api.Errno)) api.Errno {
	begin, at, fault := wire.ReadUvarint(body, 0)
	if fault != api.OK {
		return fault
	}
	if begin != uint64(first) || at == len(body) {
		return api.ErrForm
	}
	for at < len(body) {
		if at, fault = record(at); fault != api.OK {
			return fault
		}
	}
	return api.OK
}

// Same tells whether two rows of bodies have the same bytes, cut alike.
func Same(a, b [][]byte) bool {
	return slices.EqualFunc(a, b, bytes.Equal)
}
