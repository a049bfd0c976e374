package salvage

import (
	"hindsight/api"
	"hindsight/wire"
)

// firsts holds things by their numbers, 0 or more: of each number the one that was told first.
type firsts[T any] struct{ list []*T }

// tell puts in things with the numbers from first on.
func (f *firsts[T]) tell(first int, things []T) {
	for k, thing := range things {
		f.put(first+k, thing)
	}
}

func (f *firsts[T]) put(id int, thing T) {
	if missing := id + 1 - len(f.list); missing > 0 {
		f.list = append(f.list, make([]*T, missing)...)
	}
	if f.list[id] == nil {
		f.list[id] = &thing
	}
}

// of is what was told of a number; nil, if nothing was.
func (f *firsts[T]) of(id int) *T {
	if id >= len(f.list) {
		return nil
	}
	return f.list[id]
}

// node is a beginning of a stack: the number of the one that is a frame shorter, and of the frame's string.
type node struct{ parent, frame int }

// readTexts reads a body of strings: the number of its first string, and the strings; none, if it can't be
// read. (Not as strtab.Decode does, which takes all bodies of a table or none.)
func readTexts(body []byte) (int, []string) {
	return readNumbered(body, api.MaxStrings-1, func(c *wire.Cursor, _ int) (string, bool) {
		size := c.Uvarint()
		if size > api.MaxSite {
			return "", false
		}
		return string(c.Bytes(int(size))), true
	})
}

// readNodes reads a body of nodes likewise.
func readNodes(body []byte) (int, []node) {
	return readNumbered(body, api.MaxNodes, func(c *wire.Cursor, id int) (node, bool) {
		back, frame := c.Uvarint(), c.Uvarint()
		// A node 0 has no parent that may be: so none is read.
		if back >= uint64(id) {
			return node{}, false
		}
		// A frame may have any number of 64 bits; that of no string stands for all the others that are too great.
		return node{parent: id - 1 - int(back), frame: int(min(frame, api.MaxStrings))}, true
	})
}

// readNumbered reads a body that begins with the number of its first record; that of its last one must be
// most or less. The function takes a record off the cursor and tells whether it may be.
func readNumbered[T any](body []byte, most int, take func(c *wire.Cursor, id int) (T, bool)) (int, []T) {
	c := wire.New(body)
	begin := c.Uvarint()
	if begin > uint64(most) {
		return 0, nil
	}
	first := int(begin)
	var list []T
	for id := first; c.Left() > 0; id++ {
		thing, may := take(c, id)
		if !may || id > most || c.Fault() != api.OK {
			return 0, nil
		}
		list = append(list, thing)
	}
	return first, list
}
