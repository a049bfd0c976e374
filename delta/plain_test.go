package delta_test

import (
	"math"
	"math/big"

	"hindsight/api"
	"hindsight/wire"
)

// The limits, as the chapters write them.
const (
	maxEvents = 1048576
	maxNodes  = 262144
)

func state(stamp int, obj uint64, stack int) api.State {
	return api.State{Stamp: stamp, Obj: obj, Stack: stack}
}

func rec(stamp, kind int, obj, arg uint64, stack int) api.Rec {
	return api.Rec{Stamp: stamp, Kind: kind, Obj: obj, Arg: arg, Stack: stack}
}

func within(x, least, most int) bool { return x >= least && x <= most }

func plainStateMayBe(s api.State) bool {
	return within(s.Stamp, 0, maxEvents) && within(s.Stack, 0, maxNodes)
}

func plainBehind(r api.Rec) api.State {
	return state(r.Stamp+1, r.Obj, r.Stack)
}

// plainPut is P7.1, word by word.
func plainPut(s api.State, r api.Rec) ([]byte, api.State, api.Errno) {
	switch {
	case !plainStateMayBe(s):
		return nil, api.State{}, api.ErrRec
	case r.Kind < 1 || r.Kind > 22:
		return nil, api.State{}, api.ErrKind
	case r.Stamp < s.Stamp || r.Stamp >= maxEvents:
		return nil, api.State{}, api.ErrStamp
	case r.Stack < 0 || r.Stack > maxNodes:
		return nil, api.State{}, api.ErrRec
	}
	first := r.Kind
	b := wire.Uvarint(uint64(r.Stamp - s.Stamp))
	if r.Obj != s.Obj {
		first += 32
		b = append(b, wire.Uvarint(wire.Diff(s.Obj, r.Obj))...)
	}
	if r.Arg != 0 {
		first += 64
		b = append(b, wire.Uvarint(r.Arg)...)
	}
	if r.Stack != s.Stack {
		first += 128
		b = append(b, wire.Varint(int64(r.Stack-s.Stack))...)
	}
	return append([]byte{byte(first)}, b...), plainBehind(r), api.OK
}

// sum adds in numbers that don't wrap round; ok tells whether the answer is from 0 to most.
func sum(a int, b *big.Int, most int64) (int, bool) {
	c := new(big.Int).Add(big.NewInt(int64(a)), b)
	ok := c.Sign() >= 0 && c.Cmp(big.NewInt(most)) <= 0
	return int(c.Int64()), ok
}

// plainGet is P7.2, word by word.
func plainGet(s api.State, b []byte, at int) (api.Rec, int, api.State, api.Errno) {
	r, at, e := plainRead(s, b, at)
	if e != api.OK {
		return api.Rec{}, 0, api.State{}, e
	}
	return r, at, plainBehind(r), api.OK
}

func plainRead(s api.State, b []byte, at int) (api.Rec, int, api.Errno) {
	if !plainStateMayBe(s) {
		return api.Rec{}, 0, api.ErrRec
	}
	if at < 0 || at > len(b) {
		return api.Rec{}, 0, api.ErrArg
	}
	if at == len(b) {
		return api.Rec{}, 0, api.ErrEnd
	}
	first := int(b[at])
	r := rec(0, first%32, s.Obj, 0, s.Stack)
	if r.Kind == 0 || r.Kind > 22 {
		return api.Rec{}, 0, api.ErrKind
	}
	above, at, e := wire.ReadUvarint(b, at+1)
	if e != api.OK {
		return api.Rec{}, 0, e
	}
	stamp, ok := sum(s.Stamp, new(big.Int).SetUint64(above), maxEvents-1)
	if !ok {
		return api.Rec{}, 0, api.ErrStamp
	}
	r.Stamp = stamp
	if first/32%2 == 1 {
		way, next, e := wire.ReadUvarint(b, at)
		if e != api.OK {
			return api.Rec{}, 0, e
		}
		if way == 0 {
			return api.Rec{}, 0, api.ErrRec
		}
		r.Obj, at = wire.Step(s.Obj, way), next
	}
	if first/64%2 == 1 {
		arg, next, e := wire.ReadUvarint(b, at)
		if e != api.OK {
			return api.Rec{}, 0, e
		}
		if arg == 0 {
			return api.Rec{}, 0, api.ErrRec
		}
		r.Arg, at = arg, next
	}
	if first/128%2 == 1 {
		n, next, e := wire.ReadVarint(b, at)
		if e != api.OK {
			return api.Rec{}, 0, e
		}
		stack, ok := sum(s.Stack, big.NewInt(n), maxNodes)
		if n == 0 || !ok {
			return api.Rec{}, 0, api.ErrRec
		}
		r.Stack, at = stack, next
	}
	return r, at, api.OK
}

// What the fields are asked with: their ends, what lies beside them, and where a number gets a byte more.

func stamps() []int {
	return []int{math.MinInt, -1, 0, 1, 4, 5, 127, 128, 132, 16383, 16384, maxEvents - 2, maxEvents - 1, maxEvents, maxEvents + 1, math.MaxInt}
}

func stacks() []int {
	return []int{math.MinInt, -1, 0, 1, 5, 63, 64, 65, 8191, 8192, maxNodes - 64, maxNodes - 1, maxNodes, maxNodes + 1, math.MaxInt}
}

func kinds() []int {
	return []int{math.MinInt, -23, -1, 0, 1, 2, 16, 21, 22, 23, 31, 32, 33, 65, 129, 225, 257, 1<<32 + 1, math.MaxInt}
}

func numbers() []uint64 {
	return []uint64{0, 1, 63, 64, 127, 128, 1000, 1 << 32, 1<<63 - 1, 1 << 63, 1<<63 + 1, math.MaxUint64 - 1, math.MaxUint64}
}

// goodRecs are all records, of some fields, that may be told against a state.
func goodRecs(s api.State) []api.Rec {
	var out []api.Rec
	for _, stamp := range stamps() {
		for _, stack := range stacks() {
			if !within(stamp, s.Stamp, maxEvents-1) || !within(stack, 0, maxNodes) {
				continue
			}
			for _, obj := range numbers() {
				for _, arg := range numbers() {
					out = append(out, rec(stamp, 1+(len(out)%22), obj, arg, stack))
				}
			}
		}
	}
	return out
}

// goodStates are states that may be, the last one of them such that no record comes behind it.
func goodStates() []api.State {
	return []api.State{
		{},
		state(4, 1000, 5),
		state(1, 1<<63, 0),
		state(128, math.MaxUint64, 64),
		state(maxEvents-1, 1<<63-1, maxNodes-1),
		state(maxEvents-2, 1, maxNodes),
		state(maxEvents, 0, 0),
	}
}
