package report

import "hindsight/api"

// shelf tells which events of a trace have the same stack: by its number.
type shelf struct {
	trace  []api.Event
	frames map[string]int
	stacks map[[2]int]int // by the number of the stack without its last frame, and that frame's
	events map[int]int    // the number of the stack of each event that was asked for
}

func newShelf(trace []api.Event) shelf {
	return shelf{trace, map[string]int{}, map[[2]int]int{}, map[int]int{}}
}

// stackOf is the number of an event's stack; that of a stack without frames is 0.
func (s shelf) stackOf(place int) int {
	stack, known := s.events[place]
	if known {
		return stack
	}
	for _, frame := range s.trace[place].Stack {
		stack = numberOf(s.stacks, [2]int{stack, numberOf(s.frames, frame)})
	}
	s.events[place] = stack
	return stack
}

// pairOf are the numbers of a race's two stacks, in one order whichever of them is the first event's.
func (s shelf) pairOf(r api.Race) [2]int {
	first, second := s.stackOf(r.First), s.stackOf(r.Second)
	return [2]int{min(first, second), max(first, second)}
}

// numberOf is the number of a key: from 1 on, in the order in which they are asked for.
func numberOf[K comparable](numbers map[K]int, key K) int {
	number, known := numbers[key]
	if !known {
		number = len(numbers) + 1
		numbers[key] = number
	}
	return number
}

// grouped are the first ones of alike races of a trace, and how many there are of each sort.
func grouped(trace []api.Event, races []api.Race) ([]api.Race, []int) {
	var firsts []api.Race
	var counts []int
	s, groups := newShelf(trace), map[[2]int]int{}
	for _, r := range races {
		group := numberOf(groups, s.pairOf(r))
		if group > len(firsts) {
			firsts, counts = append(firsts, r), append(counts, 0)
		}
		counts[group-1]++
	}
	return firsts, counts
}
