// Package samples makes what the tests of several layers ask their calls with. The program itself does
// not use it.
package samples

import (
	"bytes"
	"slices"
	"strings"

	"hindsight/api"
)

// Numbered is a list of n unlike strings of two bytes each.
func Numbered(n int) []string {
	list := make([]string, n)
	for k := range list {
		list[k] = string([]byte{byte(k >> 8), byte(k)})
	}
	return list
}

// Longest is a list of n unlike strings of MaxSite bytes each.
func Longest(n int) []string {
	list := make([]string, n)
	for k := range list {
		list[k] = strings.Repeat(string([]byte{byte(k)}), api.MaxSite)
	}
	return list
}

// AllBodies are all bodies of at most n of a few bytes.
func AllBodies(n int, of ...byte) [][]byte { return AllLists(n, of...) }

// AllLists are all lists of at most n of a few things.
func AllLists[T any](n int, of ...T) [][]T {
	out := [][]T{nil}
	for from := 0; n > 0; n-- {
		to := len(out)
		for _, list := range out[from:to] {
			for _, x := range of {
				out = append(out, append(slices.Clone(list), x))
			}
		}
		from = to
	}
	return out
}

// Damage are bodies, one or more, changed in one of nine ways; pick chooses a number from 0 on, below
// another. The numbers with which the bodies begin have one byte each.
func Damage(pick func(below int) int, bodies [][]byte) [][]byte {
	bodies = slices.Clone(bodies)
	k := pick(len(bodies))
	b := slices.Clone(bodies[k])
	at := pick(len(b) + 1)
	switch pick(9) {
	case 0:
		bodies[k] = b[:at]
	case 1:
		bodies[k] = slices.Insert(b, at, byte(pick(256)))
	case 2:
		bodies[k] = slices.Insert(b, at, bytes.Repeat([]byte{255}, pick(11))...)
	case 3:
		bodies[k] = slices.Delete(b, at, min(len(b), at+pick(3)))
	case 4:
		if at < len(b) {
			b[at] += byte(pick(3))
		}
		bodies[k] = b
	case 5: // what lies from here on goes into a body of its own, with a beginning that may be right
		bodies[k] = slices.Clone(b[:at])
		bodies = slices.Insert(bodies, k+1, append([]byte{byte(pick(30))}, b[at:]...))
	case 6: // two become one
		if k+1 < len(bodies) {
			bodies[k] = append(b, bodies[k+1][1:]...)
			bodies = slices.Delete(bodies, k+1, k+2)
		}
	case 7:
		bodies = slices.Insert(bodies, k, slices.Clone(b))
	case 8:
		bodies = slices.Delete(bodies, k, k+1)
	}
	return bodies
}

// Row is a row of n records with rising stamps, near each other in most of their fields; pick chooses a
// number from 0 on, below another. (Of up to 300000 records every stamp may be.)
func Row(pick func(below int) int, n int) []api.Rec {
	row := make([]api.Rec, n)
	r := api.Rec{Stamp: -1}
	for k := range row {
		r.Stamp += 1 + pick(2)*pick(3)
		r.Kind, r.Arg = 1+pick(22), 0
		switch pick(6) {
		case 0:
			r.Obj = number(pick)
		case 1, 2:
			r.Obj += uint64(pick(64)) - 32
		}
		if pick(2) == 0 {
			r.Arg = number(pick) >> pick(64)
		}
		if pick(3) == 0 {
			r.Stack = pick(api.MaxNodes + 1)
		}
		row[k] = r
	}
	return row
}

// number is any number of 64 bits.
func number(pick func(below int) int) uint64 {
	return uint64(pick(1<<32))<<32 | uint64(pick(1<<32))
}

// Roomy are copies of bodies with spare room behind each, and these copies with their room.
func Roomy(bodies [][]byte) (list, whole [][]byte) {
	for _, b := range bodies {
		w := slices.Concat(b, bytes.Repeat([]byte{77}, 20))
		list, whole = append(list, w[:len(b)]), append(whole, w)
	}
	return list, whole
}

// Spoil writes over a list and over all the room behind it.
func Spoil[T any](list []T, with T) {
	for room, k := list[:cap(list)], 0; k < len(room); k++ {
		room[k] = with
	}
}

// Seen counts how often each error was answered, so that a test can tell that it saw them all.
type Seen map[api.Errno]int

// Rare are those of some errors that were answered fewer than 20 times.
func (s Seen) Rare(of ...api.Errno) []api.Errno {
	var rare []api.Errno
	for _, e := range of {
		if s[e] < 20 {
			rare = append(rare, e)
		}
	}
	return rare
}
