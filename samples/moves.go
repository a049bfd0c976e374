package samples

import (
	"slices"

	"hindsight/api"
	"hindsight/check"
)

// Kinds are all kinds of events.
func Kinds() []int {
	var kinds []int
	for kind := api.Read; kind <= api.Mark; kind++ {
		kinds = append(kinds, kind)
	}
	return kinds
}

// Move is a good event of one of so many goroutines, two at least, and of one of some kinds. Few locks,
// channels, wait groups, onces and addresses are named, so that moves meet each other, and many of them
// can come behind others as in a run. The numbers of all sorts are the same.
func Move(pick func(below int) int, goroutines int, kinds ...int) api.Event {
	e := api.Event{G: pick(goroutines), Kind: kinds[pick(len(kinds))], Obj: uint64(pick(3))}
	switch e.Kind {
	case api.Read, api.Write, api.Alloc, api.Free:
		e.Obj, e.Arg = uint64(pick(7)), uint64(1+pick(4))
	case api.Fork:
		e.Obj, e.Arg = 0, uint64(1+pick(goroutines-1))
	case api.Join:
		e.Obj, e.Arg = 0, uint64(pick(goroutines))
	case api.Make:
		e.Arg = uint64(pick(3))
	case api.Recv, api.Once:
		e.Arg = uint64(pick(2))
	case api.Add:
		e.Arg = []uint64{0, 1, 2, 3, 4, 4294967292, 4294967293, 4294967294}[pick(8)]
	case api.Mark:
		e.Obj, e.Arg = number(pick), number(pick)
	}
	return e
}

// Run is a run of at most n moves: those that can come, of many that were picked. It is shorter, if nearly
// nothing can come any more.
func Run(pick func(below int) int, n, goroutines int, kinds ...int) []api.Event {
	c, run := check.New(), []api.Event(nil)
	for tries := 50 * n; tries > 0 && len(run) < n; tries-- {
		e := Move(pick, goroutines, kinds...)
		if reason, fault := c.Add(e); reason == 0 && fault == api.OK {
			run = append(run, e)
		}
	}
	return run
}

// Moved lays the bytes of a run elsewhere, and makes rows of each: they lie in one line of 64 bytes or in
// several, and now and then at an end of memory. It is to be a run of moves: these name few bytes.
func Moved(pick func(below int) int, run []api.Event) []api.Event {
	size := []uint64{1, 1, 2, 7, 16}[pick(5)]
	top := 10 * size // right above all bytes that moves name
	base := []uint64{0, 60, 64 - top%64, 1 << 40, 1<<63 - 5, -top, -top - 64}[pick(7)]
	run = slices.Clone(run)
	for k, e := range run {
		switch e.Kind {
		case api.Read, api.Write, api.Alloc, api.Free:
			run[k].Obj, run[k].Arg = base+e.Obj*size, e.Arg*size
		}
	}
	return run
}

// Walk goes over all runs of so many of some moves behind a beginning; and over shorter ones, behind which
// none of them can come. It answers how many there were.
func Walk(beginning []api.Event, depth int, moves []api.Event, visit func(run []api.Event)) int {
	runs, gone := 0, false
	for _, e := range moves {
		more := append(slices.Clip(beginning), e)
		if at, _, _ := check.Run(more); depth > 0 && at == -1 {
			gone = true
			runs += Walk(more, depth-1, moves, visit)
		}
	}
	if !gone {
		visit(beginning)
		runs++
	}
	return runs
}

// Each are moves of so many goroutines, each with all of them.
func Each(goroutines int, moves ...api.Event) []api.Event {
	var list []api.Event
	for g := range goroutines {
		for _, e := range moves {
			e.G = g
			list = append(list, e)
		}
	}
	return list
}

// Focus are lists of kinds that go well together, some several times, as they are to be picked more often;
// of each much happens between goroutines. All kinds, first.
func Focus() [][]int {
	return [][]int{
		Kinds(),
		{api.Acquire, api.Release, api.RAcquire, api.RRelease, api.Fork, api.Mark},
		{api.Make, api.Send, api.Send, api.Ack, api.Ack, api.Recv, api.Recv, api.Fork},
		{api.Make, api.Send, api.Send, api.Ack, api.Recv, api.Close, api.Fork, api.Join},
		{api.Add, api.Wait, api.Once, api.Fork, api.Read, api.Write},
		{api.Load, api.Store, api.Swap, api.Fork, api.Write},
		{api.Fork, api.Join, api.Read, api.Release, api.Acquire, api.Store, api.Load},
	}
}
