package index

import (
	"cmp"
	"slices"
	"sort"

	"hindsight/api"
)

// lane is a goroutine's events.
type lane struct {
	g, events int
	list      []*chunk // in their order
}

// lanesOf are the lanes of chunks that stand goroutine by goroutine, by rising number.
func lanesOf(chunks []*chunk) []lane {
	var lanes []lane
	for _, c := range chunks {
		if c.ahead == 0 {
			lanes = append(lanes, lane{g: c.Stream})
		}
		l := &lanes[len(lanes)-1]
		l.events += c.Count
		l.list = append(l.list, c)
	}
	return lanes
}

// lane is that of a goroutine; one without events, if it has none.
func (x *Index) lane(g int) lane {
	at, there := slices.BinarySearchFunc(x.lanes, g, func(l lane, g int) int {
		return cmp.Compare(l.g, g)
	})
	if !there {
		return lane{}
	}
	return x.lanes[at]
}

// chunks are those that have records with the turns from one on, ahead of another.
func (l lane) chunks(turns api.Span) []*chunk {
	first := sort.Search(len(l.list), func(k int) bool { return l.list[k].ahead+l.list[k].Count > turns.From })
	end := sort.Search(len(l.list), func(k int) bool { return l.list[k].ahead >= turns.To })
	return l.list[first:end]
}

// timeline has the chunks of all goroutines by their first stamps. Any part of that list has a middle;
// there reach tells the greatest last stamp of the part that is halved there, so that where it ends too
// early the whole part is passed over: a few chunks are found among many without a look at each.
type timeline struct {
	list  []*chunk
	reach []int
}

func newTimeline(chunks []*chunk) timeline {
	t := timeline{slices.Clone(chunks), make([]int, len(chunks))}
	slices.SortFunc(t.list, func(a, b *chunk) int {
		return cmp.Compare(a.First, b.First)
	})
	t.measure(api.Span{To: len(t.list)})
	return t
}

// middle is the place at which a part of the list is halved.
func middle(part api.Span) int { return (part.From + part.To) / 2 }

// measure notes the reach of a part, and of those into which it is halved: the greatest last stamp, -1 if
// there is no chunk.
func (t timeline) measure(part api.Span) int {
	if part.From == part.To {
		return -1
	}
	m := middle(part)
	t.reach[m] = max(t.list[m].Last, t.measure(api.Span{From: part.From, To: m}), t.measure(api.Span{From: m + 1, To: part.To}))
	return t.reach[m]
}

// chunks are those that begin ahead of the end of a span of stamps, and end at its beginning or later.
func (t timeline) chunks(stamps api.Span) []*chunk {
	return t.find(nil, api.Span{To: len(t.list)}, stamps)
}

// find puts those chunks of a part behind others.
func (t timeline) find(found []*chunk, part, stamps api.Span) []*chunk {
	m := middle(part)
	if part.From == part.To || t.reach[m] < stamps.From {
		return found
	}
	found = t.find(found, api.Span{From: part.From, To: m}, stamps)
	if t.list[m].First >= stamps.To {
		return found // all behind it begin later still
	}
	if t.list[m].Last >= stamps.From {
		found = append(found, t.list[m])
	}
	return t.find(found, api.Span{From: m + 1, To: part.To}, stamps)
}
