package check

import (
	"cmp"
	"slices"
)

// longest is how many entries a piece may have.
const longest = 512

// entry is a key and its value.
type entry struct{ key, value uint64 }

// rising are entries by rising keys. They stand in pieces of bounded length, so that one more or one less
// moves few others, however many there are and whatever the order in which they come and go. No piece is
// empty.
type rising struct{ pieces [][]entry }

// seek answers where the first entry is whose key is no lower: in which piece, and where in it; behind all
// of the last piece, if there is none. And whether it has just that key.
func (r *rising) seek(key uint64) (int, int, bool) {
	if len(r.pieces) == 0 {
		return 0, 0, false
	}
	ahead := r.pieces[:len(r.pieces)-1]
	piece, _ := slices.BinarySearchFunc(ahead, key, func(p []entry, key uint64) int {
		return cmp.Compare(p[len(p)-1].key, key)
	})
	at, is := slices.BinarySearchFunc(r.pieces[piece], key, func(e entry, key uint64) int {
		return cmp.Compare(e.key, key)
	})
	return piece, at, is
}

// next answers the first entry whose key is no lower, and whether there is one.
func (r *rising) next(key uint64) (entry, bool) {
	piece, at, _ := r.seek(key)
	if len(r.pieces) == 0 || at == len(r.pieces[piece]) {
		return entry{}, false
	}
	return r.pieces[piece][at], true
}

// has tells whether a key is there.
func (r *rising) has(key uint64) bool {
	_, _, is := r.seek(key)
	return is
}

// get answers a key's value; 0, if the key is not there.
func (r *rising) get(key uint64) uint64 {
	piece, at, is := r.seek(key)
	if !is {
		return 0
	}
	return r.pieces[piece][at].value
}

// put gives a key a value, be it there or not.
func (r *rising) put(key, value uint64) {
	if len(r.pieces) == 0 {
		r.pieces = [][]entry{nil}
	}
	piece, at, is := r.seek(key)
	if is {
		r.pieces[piece][at].value = value
		return
	}
	r.pieces[piece] = slices.Insert(r.pieces[piece], at, entry{key, value})
	if len(r.pieces[piece]) > longest {
		r.halve(piece)
	}
}

// halve makes two pieces of one.
func (r *rising) halve(piece int) {
	p := r.pieces[piece]
	r.pieces[piece] = p[:len(p)/2]
	r.pieces = slices.Insert(r.pieces, piece+1, slices.Clone(p[len(p)/2:]))
}

// remove takes out a key that is there.
func (r *rising) remove(key uint64) {
	piece, at, _ := r.seek(key)
	r.pieces[piece] = slices.Delete(r.pieces[piece], at, at+1)
	if len(r.pieces[piece]) == 0 {
		r.pieces = slices.Delete(r.pieces, piece, piece+1)
	}
}

// keys are the keys, rising.
func (r *rising) keys() []uint64 {
	var keys []uint64
	for _, p := range r.pieces {
		for _, e := range p {
			keys = append(keys, e.key)
		}
	}
	return keys
}
