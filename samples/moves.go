package samples

import "hindsight/api"

// Kinds are all kinds of events.
func Kinds() []int {
	var kinds []int
	for kind := api.Read; kind <= api.Mark; kind++ {
		kinds = append(kinds, kind)
	}
	return kinds
}

// Move is a good event of one of so many goroutines, two at least, and of one of some kinds. Few locks,
// channels, wait groups, onces and addresses are named, so that moves meet each other, and many of them
// can come behind others as in a run. The numbers of all sorts are the same.
func Move(pick func(below int) int, goroutines int, kinds ...int) api.Event {
	e := api.Event{G: pick(goroutines), Kind: kinds[pick(len(kinds))], Obj: uint64(pick(3))}
	switch e.Kind {
	case api.Read, api.Write, api.Alloc, api.Free:
		e.Obj, e.Arg = uint64(pick(7)), uint64(1+pick(4))
	case api.Fork:
		e.Obj, e.Arg = 0, uint64(1+pick(goroutines-1))
	case api.Join:
		e.Obj, e.Arg = 0, uint64(pick(goroutines))
	case api.Make:
		e.Arg = uint64(pick(3))
	case api.Recv, api.Once:
		e.Arg = uint64(pick(2))
	case api.Add:
		e.Arg = []uint64{0, 1, 2, 3, 4, 4294967292, 4294967293, 4294967294}[pick(8)]
	case api.Mark:
		e.Obj, e.Arg = number(pick), number(pick)
	}
	return e
}
