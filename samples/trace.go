package samples

import (
	"strings"

	"hindsight/api"
	"hindsight/event"
)

// Site is a frame of a stack: mostly one of a few, seldom a long one; pick chooses a number from 0 on,
// below another.
func Site(pick func(below int) int) string {
	switch pick(12) {
	case 0:
		return strings.Repeat("long", pick(60))
	case 1:
		return string([]byte{byte(pick(256)), byte(pick(256))})
	}
	return []string{"main", "work", "f", "", "\x00\xff", "main.go:7"}[pick(6)]
}

// Stack is a stack that may be, often with outer frames that others have, too.
func Stack(pick func(below int) int) []string {
	stack := []string{}
	for range pick(4) * pick(3) {
		stack = append(stack, Site(pick))
	}
	switch pick(8) {
	case 0:
		return nil
	case 1:
		for len(stack) < api.MaxDepth {
			stack = append(stack, Site(pick))
		}
		return stack
	}
	return append(stack, "main")
}

// Event is a good event of one of so many goroutines, of which the third is the last one of all.
func Event(pick func(below int) int, goroutines int) api.Event {
	for {
		e := api.Event{G: pick(goroutines), Kind: 1 + pick(22), Stack: Stack(pick)}
		if e.G == 2 {
			e.G = api.MaxG - 1
		}
		switch pick(4) {
		case 0:
			e.Obj = number(pick)
		case 1, 2:
			e.Obj = 1000 + 8*uint64(pick(9))
		}
		e.Arg = uint64(pick(1<<32)) >> pick(33)
		if event.Check(e) == api.OK {
			return e
		}
	}
}

// Events is a trace of so many events, of so many goroutines at most; with up to 10000 events it is
// within bounds.
func Events(pick func(below int) int, n, goroutines int) []api.Event {
	t := make([]api.Event, n)
	for k := range t {
		t[k] = Event(pick, goroutines)
	}
	return t
}

// Trace is such a trace with at most so many events, of few goroutines.
func Trace(pick func(below int) int, most int) []api.Event {
	n := pick(most + 1)
	return Events(pick, n, 1+pick(6))
}

// Limit is a size limit that may be, often one of the least ones.
func Limit(pick func(below int) int) int {
	return []int{api.MinLimit, api.MinLimit + pick(3), api.MinLimit + pick(200), 1000 + pick(5000), api.MaxLimit}[pick(5)]
}
