package frame

import (
	"math"

	"hindsight/api"
	"hindsight/wire"
)

const (
	form      = 1 // the number of the form in which files are written
	maxFrames = 1<<32 - 1
)

// EncodeHead writes a head's body.
func EncodeHead(h api.Head) ([]byte, api.Errno) {
	if !headMayBe(h) {
		return nil, api.ErrField
	}
	body := []byte{form}
	for _, field := range fieldsOf(&h) {
		body = append(body, wire.Uvarint(uint64(*field))...)
	}
	return body, api.OK
}

// DecodeHead reads it.
func DecodeHead(body []byte) (api.Head, api.Errno) {
	if len(body) == 0 {
		return api.Head{}, api.ErrEnd
	}
	if body[0] != form {
		return api.Head{}, api.ErrField
	}
	// A field that is still to be read is 0, which may be: the whole tells of the one that was read last.
	// (Of the limit it may not be, but that one is read first.)
	var h api.Head
	at := 1
	for _, field := range fieldsOf(&h) {
		x, next, e := readCount(body, at)
		if e != api.OK {
			return api.Head{}, e
		}
		*field = x
		if !headMayBe(h) {
			return api.Head{}, api.ErrField
		}
		at = next
	}
	if at < len(body) {
		return api.Head{}, api.ErrBody
	}
	return h, api.OK
}

// headMayBe brings each field into its range in a copy: a field that was outside of it is another one there.
func headMayBe(h api.Head) bool {
	within := h
	within.Limit = min(max(h.Limit, api.MinLimit), api.MaxLimit)
	within.Events = min(max(h.Events, 0), api.MaxEvents)
	within.Streams = min(max(h.Streams, 0), api.MaxG)
	within.Strings = min(max(h.Strings, 0), api.MaxStrings)
	within.Nodes = min(max(h.Nodes, 0), api.MaxNodes)
	return within == h
}

// fieldsOf tells the fields in the order in which they are written and read.
func fieldsOf(h *api.Head) [5]*int {
	return [...]*int{&h.Limit, &h.Events, &h.Streams, &h.Strings, &h.Nodes}
}

// EncodeFoot writes a foot's body.
func EncodeFoot(f api.Foot) ([]byte, api.Errno) {
	if !framesMayBe(f.Frames) {
		return nil, api.ErrField
	}
	return appendNumber(wire.Uvarint(uint64(f.Frames)), f.Sum, sumSize), api.OK
}

// DecodeFoot reads it.
func DecodeFoot(body []byte) (api.Foot, api.Errno) {
	frames, at, e := readCount(body, 0)
	if e != api.OK {
		return api.Foot{}, e
	}
	if !framesMayBe(frames) {
		return api.Foot{}, api.ErrField
	}
	end := at + sumSize
	if len(body) < end {
		return api.Foot{}, api.ErrEnd
	}
	if len(body) > end {
		return api.Foot{}, api.ErrBody
	}
	return api.Foot{Frames: frames, Sum: number(body[at:end])}, api.OK
}

func framesMayBe(n int) bool { return n >= 0 && n <= maxFrames }

// readCount is wire.ReadUvarint for a field: a number that no int holds becomes the greatest int, which no field may be either.
func readCount(b []byte, at int) (int, int, api.Errno) {
	x, next, e := wire.ReadUvarint(b, at)
	return int(min(x, math.MaxInt)), next, e
}
