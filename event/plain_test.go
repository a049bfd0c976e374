package event_test

import (
	"math"
	"math/big"
	"strings"

	"hindsight/api"
)

// rule is a row of the chapter's table: what a kind's Obj is, and the least and the greatest Arg.
type rule struct {
	name        string
	obj         string
	least, most uint64
}

// rules are the rows of the chapter's table, its numbers as the chapter writes them.
func rules() map[int]rule {
	return map[int]rule{
		1:  {"read", "address", 1, 64},
		2:  {"write", "address", 1, 64},
		3:  {"acquire", "any", 0, 0},
		4:  {"release", "any", 0, 0},
		5:  {"racquire", "any", 0, 0},
		6:  {"rrelease", "any", 0, 0},
		7:  {"fork", "0", 1, 65535},
		8:  {"join", "0", 0, 65535},
		9:  {"make", "any", 0, 65536},
		10: {"send", "any", 0, 0},
		11: {"ack", "any", 0, 0},
		12: {"recv", "any", 0, 1},
		13: {"close", "any", 0, 0},
		14: {"add", "any", 0, 4294967294},
		15: {"wait", "any", 0, 0},
		16: {"once", "any", 0, 1},
		17: {"load", "any", 0, 0},
		18: {"store", "any", 0, 0},
		19: {"swap", "any", 0, 0},
		20: {"alloc", "address", 1, 65536},
		21: {"free", "address", 1, 65536},
		22: {"mark", "any", 0, math.MaxUint64},
	}
}

// beyond tells whether Obj + Arg - 1 is 2^64 or more, in numbers that don't wrap round.
func beyond(obj, arg uint64) bool {
	last := new(big.Int).SetUint64(obj)
	last.Add(last, new(big.Int).SetUint64(arg))
	last.Sub(last, big.NewInt(1))
	return last.Cmp(new(big.Int).Lsh(big.NewInt(1), 64)) >= 0
}

// plainCheck is P6.2, word by word.
func plainCheck(of map[int]rule, e api.Event) api.Errno {
	r, ok := of[e.Kind]
	if !ok {
		return api.ErrKind
	}
	if e.G < 0 || e.G >= 65536 {
		return api.ErrG
	}
	within := e.Arg >= r.least && e.Arg <= r.most
	if r.obj == "0" && e.Obj != 0 {
		return api.ErrObj
	}
	if r.obj == "address" && within && beyond(e.Obj, e.Arg) {
		return api.ErrObj
	}
	if !within {
		return api.ErrSize
	}
	if len(e.Stack) > 16 {
		return api.ErrSite
	}
	for _, frame := range e.Stack {
		if len(frame) > 65536 {
			return api.ErrSite
		}
	}
	return api.OK
}

// plainAccess is P6.4, word by word.
func plainAccess(of map[int]rule, e api.Event) (uint64, uint64, bool, bool) {
	sound := api.Event{Kind: e.Kind, Obj: e.Obj, Arg: e.Arg}
	if e.Kind != 1 && e.Kind != 2 || plainCheck(of, sound) != api.OK {
		return 0, 0, false, false
	}
	return e.Obj, e.Obj + e.Arg - 1, e.Kind == 2, true
}

// plainClash is P6.5, byte by byte; all accesses of the tests that ask it end ahead of the last byte of
// all, so that no number wraps round.
func plainClash(of map[int]rule, a, b api.Event) bool {
	firstA, lastA, writesA, isA := plainAccess(of, a)
	firstB, lastB, writesB, isB := plainAccess(of, b)
	if !isA || !isB || !writesA && !writesB {
		return false
	}
	for x := firstA; x <= lastA; x++ {
		for y := firstB; y <= lastB; y++ {
			if x == y {
				return true
			}
		}
	}
	return false
}

// someKinds are all kinds, and numbers that are none.
func someKinds() []int {
	list := []int{math.MinInt, math.MinInt32, -22, 255, 256 + 1, 1 << 16, 1<<32 + 1, math.MaxInt}
	for kind := -2; kind <= 25; kind++ {
		list = append(list, kind)
	}
	return list
}

// someArgs lie at all ends of what an Arg may be, and about powers of 2.
func someArgs() []uint64 {
	list := []uint64{0, 1, 2, 3, 7, 8, 9}
	for _, x := range []uint64{64, 256, 65535, 65536, 1 << 31, 1 << 32, 1<<32 - 2, 1<<32 + 64, 1 << 63, math.MaxUint64 - 1} {
		list = append(list, x-1, x, x+1)
	}
	return list
}

// someObjs lie at both ends of the numbers of 64 bits, so that accesses and allocations end about the last.
func someObjs() []uint64 {
	list := []uint64{0, 1, 2, 1000, 1 << 32, 1 << 63}
	for _, back := range []uint64{0, 1, 2, 62, 63, 64, 65, 65533, 65534, 65535, 65536, 65537} {
		list = append(list, math.MaxUint64-back)
	}
	return list
}

// someStacks are about the limits of stacks and frames.
func someStacks() [][]string {
	longest := strings.Repeat("x", 65536)
	return [][]string{
		nil,
		{},
		{"f", "main"},
		make([]string, 16),
		make([]string, 17),
		make([]string, 1000),
		{longest},
		{longest + "x"},
		append(make([]string, 15), longest),
		append(make([]string, 15), longest+"x"),
		append([]string{longest + "x"}, make([]string, 15)...),
		append(make([]string, 16), longest+"x"),
		make([]string, 16, 40),
		append(make([]string, 16), "behind", longest+"x")[:16],
	}
}
