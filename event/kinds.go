package event

import (
	"math"

	"hindsight/api"
)

// The sorts of arguments.
const (
	nothing   = iota // 0
	truth            // 1, or 0
	touched          // bytes of an access
	living           // bytes of an allocation
	begun            // a goroutine that a fork begins
	ended            // a goroutine that a join waits for
	room             // of a channel
	increment        // of a wait group's counter
	anything
)

// kinds has a row for each kind, at the kind's number: what it is called, and of which sort its Arg is.
// The row 0 is no kind's.
var kinds = [...]struct {
	name string
	sort int
}{
	api.Read:     {"read", touched},
	api.Write:    {"write", touched},
	api.Acquire:  {"acquire", nothing},
	api.Release:  {"release", nothing},
	api.RAcquire: {"racquire", nothing},
	api.RRelease: {"rrelease", nothing},
	api.Fork:     {"fork", begun},
	api.Join:     {"join", ended},
	api.Make:     {"make", room},
	api.Send:     {"send", nothing},
	api.Ack:      {"ack", nothing},
	api.Recv:     {"recv", truth},
	api.Close:    {"close", nothing},
	api.Add:      {"add", increment},
	api.Wait:     {"wait", nothing},
	api.Once:     {"once", truth},
	api.Load:     {"load", nothing},
	api.Store:    {"store", nothing},
	api.Swap:     {"swap", nothing},
	api.Alloc:    {"alloc", living},
	api.Free:     {"free", living},
	api.Mark:     {"mark", anything},
}

// ranges has a row for each sort of arguments: the least and the greatest.
var ranges = [...]struct{ least, most uint64 }{
	nothing: {0, 0},
	truth:   {0, 1},
	touched: {1, api.MaxSize},
	living:  {1, api.MaxLife},
	begun:   {1, api.MaxG - 1},
	ended:   {0, api.MaxG - 1},
	room:    {0, api.MaxCap},
	// As zigzags: the greatest is that of math.MaxInt32; that of -math.MaxInt32 is one below it.
	increment: {0, 2 * math.MaxInt32},
	anything:  {0, math.MaxUint64},
}

// known tells whether there is a kind of that number.
func known(kind int) bool {
	return kind >= 1 && kind < len(kinds)
}

// Name is a kind's name.
func Name(kind int) (string, api.Errno) {
	if !known(kind) {
		return "", api.ErrKind
	}
	return kinds[kind].name, api.OK
}

// Kind is the kind of that name.
func Kind(name string) (int, api.Errno) {
	for kind := 1; known(kind); kind++ {
		if kinds[kind].name == name {
			return kind, api.OK
		}
	}
	return 0, api.ErrKind
}

// Sync tells whether an event's kind can order events.
func Sync(kind int) bool {
	return kind >= api.Acquire && kind <= api.Swap && kind != api.Make
}
