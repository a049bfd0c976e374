package slice

import "hindsight/api"

// Sorts of things with which events have to do.
const (
	goroutine = iota
	lock
	channel
	group
	once
	memory
)

// thing is that with which some events have to do: what is known by a number, or what one goroutine has to do
// with that. Memory is known by its first byte and by how many they are.
type thing struct {
	sort, g  int
	obj, arg uint64
}

// links are what the events of a run need, while it is gathered from the first one on.
type links struct {
	needs  [][]int         // of each event, the places of those that it needs
	leader map[thing]int   // of a thing the last event that later ones need
	open   map[thing][]int // of a thing the events that none has ended yet, the latest last
}

// needsOf answers, of each event of a run, the places of those that it needs; but for some that these need, too:
// of all events of a channel ahead of one the last one is enough, and so it is of Adds.
func needsOf(run []api.Event) [][]int {
	l := &links{make([][]int, len(run)), map[thing]int{}, map[thing][]int{}}
	for place, e := range run {
		l.follow(place, thing{sort: goroutine, g: e.G})
		l.take(place, e)
	}
	return l.needs
}

// take links an event with others, as its kind says. A Send and its Ack are linked as what is taken and given
// back; of a channel with room no Send is ever ended.
func (l *links) take(place int, e api.Event) {
	switch e.Kind {
	case api.Fork:
		l.lead(place, thing{sort: goroutine, g: int(e.Arg)})
	case api.Join:
		l.follow(place, thing{sort: goroutine, g: int(e.Arg)})
	case api.Acquire, api.RAcquire:
		l.begin(place, thing{sort: lock, g: e.G, obj: e.Obj})
	case api.Release, api.RRelease:
		l.end(place, thing{sort: lock, g: e.G, obj: e.Obj})
	case api.Send:
		l.begin(place, thing{sort: channel, g: e.G, obj: e.Obj})
		l.chain(place, thing{sort: channel, obj: e.Obj})
	case api.Ack:
		l.end(place, thing{sort: channel, g: e.G, obj: e.Obj})
		l.chain(place, thing{sort: channel, obj: e.Obj})
	case api.Make, api.Recv, api.Close:
		l.chain(place, thing{sort: channel, obj: e.Obj})
	case api.Add:
		l.chain(place, thing{sort: group, obj: e.Obj})
	case api.Wait:
		l.follow(place, thing{sort: group, obj: e.Obj})
	case api.Once:
		if e.Arg == 1 {
			l.lead(place, thing{sort: once, obj: e.Obj})
		} else {
			l.follow(place, thing{sort: once, obj: e.Obj})
		}
	case api.Alloc:
		l.begin(place, thing{sort: memory, obj: e.Obj, arg: e.Arg})
	case api.Free:
		l.end(place, thing{sort: memory, obj: e.Obj, arg: e.Arg})
	}
}

// need notes that an event needs others.
func (l *links) need(place int, others ...int) {
	l.needs[place] = append(l.needs[place], others...)
}

// lead lets later events need this one.
func (l *links) lead(place int, of thing) {
	l.leader[of] = place
}

// follow lets an event need the one that leads; the goroutine 0 has no Fork, and a channel's Make nothing ahead.
func (l *links) follow(place int, of thing) {
	if ahead, is := l.leader[of]; is {
		l.need(place, ahead)
	}
}

// chain lets an event need the one that leads, and later ones need this one.
func (l *links) chain(place int, of thing) {
	l.follow(place, of)
	l.lead(place, of)
}

// begin lets an event be open till another one ends it.
func (l *links) begin(place int, of thing) {
	l.open[of] = append(l.open[of], place)
}

// end lets an event and the latest open one, which it ends, need each other.
func (l *links) end(place int, of thing) {
	last := len(l.open[of]) - 1
	begun := l.open[of][last]
	l.open[of] = l.open[of][:last]
	l.need(place, begun)
	l.need(begun, place)
}
