package slice

import "hindsight/api"

// leastClosed is the least closed choice of a run's events that keeps those at some places.
func leastClosed(run []api.Event, places ...int) []bool {
	needs, kept := needsOf(run), make([]bool, len(run))
	var left []int // which are kept, and whose needs were not asked for yet
	keep := func(places ...int) {
		for _, place := range places {
			if !kept[place] {
				kept[place] = true
				left = append(left, place)
			}
		}
	}
	keep(places...)
	for len(left) > 0 {
		place := left[len(left)-1]
		left = left[:len(left)-1]
		keep(needs[place]...)
	}
	return kept
}
