package check_test

import (
	"slices"
	"testing"

	"hindsight/api"
	"hindsight/check"
	"hindsight/event"
)

// plain is a checker in the chapter's words: it keeps the trace so far, and counts over it whenever it is
// asked.
type plain struct{ trace []api.Event }

// number is how many events of the trace so far are so.
func (p *plain) number(so func(e api.Event) bool) int {
	n := 0
	for _, e := range p.trace {
		if so(e) {
			n++
		}
	}
	return n
}

func (p *plain) begun(g int) bool {
	return g == 0 || p.number(func(e api.Event) bool { return e.Kind == api.Fork && int(e.Arg) == g }) > 0
}

func (p *plain) joined(g int) bool {
	return p.number(func(e api.Event) bool { return e.Kind == api.Join && int(e.Arg) == g }) > 0
}

// of is how many events of a kind a goroutine has with a lock.
func (p *plain) of(g, kind int, lock uint64) int {
	return p.number(func(e api.Event) bool { return e.G == g && e.Kind == kind && e.Obj == lock })
}

func (p *plain) holdsToWrite(g int, lock uint64) bool {
	return p.of(g, api.Acquire, lock) > p.of(g, api.Release, lock)
}

func (p *plain) holdsToRead(g int, lock uint64) bool {
	return p.of(g, api.RAcquire, lock) > p.of(g, api.RRelease, lock)
}

func (p *plain) someHoldsToWrite(lock uint64) bool {
	return slices.ContainsFunc(p.trace, func(e api.Event) bool { return p.holdsToWrite(e.G, lock) })
}

func (p *plain) someHoldsToRead(lock uint64) bool {
	return slices.ContainsFunc(p.trace, func(e api.Event) bool { return p.holdsToRead(e.G, lock) })
}

// made answers a channel's room, too.
func (p *plain) made(channel uint64) (int, bool) {
	for _, e := range p.trace {
		if e.Kind == api.Make && e.Obj == channel {
			return int(e.Arg), true
		}
	}
	return 0, false
}

func (p *plain) withoutRoom(channel uint64) bool {
	room, is := p.made(channel)
	return is && room == 0
}

func (p *plain) closed(channel uint64) bool {
	return p.number(func(e api.Event) bool { return e.Kind == api.Close && e.Obj == channel }) > 0
}

func (p *plain) sends(channel uint64) int {
	return p.number(func(e api.Event) bool { return e.Kind == api.Send && e.Obj == channel })
}

func (p *plain) receives(channel uint64) int {
	return p.number(func(e api.Event) bool { return e.Kind == api.Recv && e.Obj == channel && e.Arg == 1 })
}

// waits answers the place of the Send whose Ack the goroutine waits for; -1: it does not wait.
func (p *plain) waits(g int) int {
	for place, e := range slices.Backward(p.trace) {
		if e.G != g {
			continue
		}
		if e.Kind == api.Send && p.withoutRoom(e.Obj) {
			return place
		}
		return -1
	}
	return -1
}

// received tells whether the value of the Send at a place was received.
func (p *plain) received(place int) bool {
	channel := p.trace[place].Obj
	upTo := plain{p.trace[:place+1]}
	return p.receives(channel) >= upTo.sends(channel)
}

// signed is a number by the zigzag.
func signed(arg uint64) int64 {
	if arg%2 == 1 {
		return -int64(arg/2) - 1
	}
	return int64(arg / 2)
}

func (p *plain) counter(group uint64) int64 {
	sum := int64(0)
	for _, e := range p.trace {
		if e.Kind == api.Add && e.Obj == group {
			sum += signed(e.Arg)
		}
	}
	return sum
}

func (p *plain) ran(once uint64) bool {
	return p.number(func(e api.Event) bool { return e.Kind == api.Once && e.Obj == once && e.Arg == 1 }) > 0
}

// span is an allocation: its first byte, and how many it has.
type span struct{ from, size uint64 }

func (p *plain) lives() []span {
	var lives []span
	for _, e := range p.trace {
		switch e.Kind {
		case api.Alloc:
			lives = append(lives, span{e.Obj, e.Arg})
		case api.Free:
			lives = slices.DeleteFunc(lives, func(s span) bool { return s == span{e.Obj, e.Arg} })
		}
	}
	return lives
}

// common tells whether there is a byte that lies in both.
func common(a, b span) bool {
	for k := range a.size {
		if a.from+k >= b.from && a.from+k-b.from < b.size {
			return true
		}
	}
	return false
}

// row is a row of the chapter's table.
type row struct {
	reason  int
	kinds   []int // none: any
	words   string
	applies func(p *plain, e api.Event) bool
}

func anyKind() []row {
	return []row{
		{1, nil, "goroutine not begun", func(p *plain, e api.Event) bool { return !p.begun(e.G) }},
		{2, nil, "goroutine already joined", func(p *plain, e api.Event) bool { return p.joined(e.G) }},
		{3, nil, "acknowledgement due", func(p *plain, e api.Event) bool {
			at := p.waits(e.G)
			return at >= 0 && !(e.Kind == api.Ack && e.Obj == p.trace[at].Obj)
		}},
	}
}

func lockRows() []row {
	return []row{
		{4, []int{api.Acquire}, "lock held", func(p *plain, e api.Event) bool {
			return p.someHoldsToWrite(e.Obj) || p.someHoldsToRead(e.Obj)
		}},
		{5, []int{api.Release}, "lock not held", func(p *plain, e api.Event) bool { return !p.holdsToWrite(e.G, e.Obj) }},
		{6, []int{api.RAcquire}, "lock held to write", func(p *plain, e api.Event) bool { return p.someHoldsToWrite(e.Obj) }},
		{7, []int{api.RRelease}, "lock not held to read", func(p *plain, e api.Event) bool { return !p.holdsToRead(e.G, e.Obj) }},
	}
}

func goroutineRows() []row {
	join := []int{api.Join}
	return []row{
		{8, []int{api.Fork}, "goroutine already begun", func(p *plain, e api.Event) bool { return p.begun(int(e.Arg)) }},
		{9, join, "joined goroutine not begun", func(p *plain, e api.Event) bool { return !p.begun(int(e.Arg)) }},
		{10, join, "joined twice", func(p *plain, e api.Event) bool { return p.joined(int(e.Arg)) }},
		{11, join, "goroutine joins itself", func(p *plain, e api.Event) bool { return int(e.Arg) == e.G }},
		{12, join, "joined goroutine waits", func(p *plain, e api.Event) bool { return p.waits(int(e.Arg)) >= 0 }},
	}
}

func channelRows() []row {
	some := []int{api.Send, api.Recv, api.Close, api.Ack}
	isMade := func(p *plain, channel uint64) bool { _, is := p.made(channel); return is }
	fewer := func(p *plain, channel uint64) bool { return p.receives(channel) < p.sends(channel) }
	return []row{
		{13, []int{api.Make}, "channel already made", func(p *plain, e api.Event) bool { return isMade(p, e.Obj) }},
		{14, some, "channel not made", func(p *plain, e api.Event) bool { return !isMade(p, e.Obj) }},
		{15, []int{api.Send, api.Close}, "channel closed", func(p *plain, e api.Event) bool { return p.closed(e.Obj) }},
		{16, []int{api.Send}, "channel full", func(p *plain, e api.Event) bool {
			room, _ := p.made(e.Obj)
			return room >= 1 && p.sends(e.Obj)-p.receives(e.Obj) >= room
		}},
		{17, []int{api.Recv}, "no value to receive", func(p *plain, e api.Event) bool {
			return e.Arg == 1 && p.receives(e.Obj) == p.sends(e.Obj)
		}},
		{18, []int{api.Recv}, "channel not closed", func(p *plain, e api.Event) bool { return e.Arg == 0 && !p.closed(e.Obj) }},
		{19, []int{api.Recv}, "values left", func(p *plain, e api.Event) bool { return e.Arg == 0 && fewer(p, e.Obj) }},
		{20, []int{api.Close}, "value waits", func(p *plain, e api.Event) bool { return p.withoutRoom(e.Obj) && fewer(p, e.Obj) }},
		{21, []int{api.Ack}, "no acknowledgement due", func(p *plain, e api.Event) bool { return p.waits(e.G) < 0 }},
		{22, []int{api.Ack}, "value not received", func(p *plain, e api.Event) bool {
			at := p.waits(e.G)
			return at >= 0 && !p.received(at)
		}},
	}
}

func otherRows() []row {
	return []row{
		{23, []int{api.Add}, "counter out of range", func(p *plain, e api.Event) bool {
			n := p.counter(e.Obj) + signed(e.Arg)
			return n < 0 || n > 2147483647
		}},
		{24, []int{api.Wait}, "counter not zero", func(p *plain, e api.Event) bool { return p.counter(e.Obj) != 0 }},
		{25, []int{api.Once}, "once already ran", func(p *plain, e api.Event) bool { return e.Arg == 1 && p.ran(e.Obj) }},
		{26, []int{api.Once}, "once not run", func(p *plain, e api.Event) bool { return e.Arg == 0 && !p.ran(e.Obj) }},
		{27, []int{api.Alloc}, "memory already allocated", func(p *plain, e api.Event) bool {
			return slices.ContainsFunc(p.lives(), func(s span) bool { return common(s, span{e.Obj, e.Arg}) })
		}},
		{28, []int{api.Free}, "memory not allocated", func(p *plain, e api.Event) bool {
			return !slices.Contains(p.lives(), span{e.Obj, e.Arg})
		}},
	}
}

// table is the chapter's table.
var table = slices.Concat(anyKind(), lockRows(), goroutineRows(), channelRows(), otherRows())

// applying are all reasons that apply, in their order.
func (p *plain) applying(e api.Event) []int {
	var list []int
	for _, r := range table {
		if (r.kinds == nil || slices.Contains(r.kinds, e.Kind)) && r.applies(p, e) {
			list = append(list, r.reason)
		}
	}
	return list
}

func (p *plain) add(e api.Event) (int, api.Errno) {
	if fault := event.Check(e); fault != api.OK {
		return 0, fault
	}
	if len(p.trace) >= api.MaxEvents {
		return 0, api.ErrLarge
	}
	if list := p.applying(e); list != nil {
		return list[0], api.OK
	}
	p.trace = append(p.trace, e)
	return 0, api.OK
}

func (p *plain) held(g int) ([]uint64, []bool) {
	var locks []uint64
	for _, e := range p.trace {
		takes := e.Kind == api.Acquire || e.Kind == api.RAcquire
		if takes && (p.holdsToWrite(g, e.Obj) || p.holdsToRead(g, e.Obj)) {
			locks = append(locks, e.Obj)
		}
	}
	slices.Sort(locks)
	locks = slices.Compact(locks)
	var toWrite []bool
	for _, lock := range locks {
		toWrite = append(toWrite, p.holdsToWrite(g, lock))
	}
	return locks, toWrite
}

func (p *plain) alive() []int {
	list := []int{0}
	for _, e := range p.trace {
		if e.Kind == api.Fork {
			list = append(list, int(e.Arg))
		}
	}
	list = slices.DeleteFunc(list, p.joined)
	slices.Sort(list)
	return list
}

// pair is a checker and a plain one that are told the same.
type pair struct {
	t       *testing.T
	checker *check.Checker
	plain   *plain
}

// newPair is a pair that has taken some events.
func newPair(t *testing.T, taken ...api.Event) pair {
	t.Helper()
	p := pair{t, check.New(), &plain{}}
	if p.checker == nil {
		t.Fatal("P16.1: New answers no checker")
	}
	for _, e := range taken {
		p.takes(e)
	}
	return p
}

// add tells both an event, and answers what both say to it.
func (p pair) add(e api.Event) (int, api.Errno) {
	p.t.Helper()
	reason, fault := p.checker.Add(e)
	wantReason, wantFault := p.plain.add(e)
	if reason != wantReason || fault != wantFault {
		p.t.Fatalf("P16.2: behind %v: Add(%v) = %d, %d, want %d, %d", p.plain.trace, e, reason, fault, wantReason, wantFault)
	}
	return reason, fault
}

// takes tells both an event that can come.
func (p pair) takes(e api.Event) {
	p.t.Helper()
	if reason, fault := p.add(e); reason != 0 || fault != api.OK {
		p.t.Fatalf("P16.2: behind %v: Add(%v) = %d, %d, want 0, 0", p.plain.trace, e, reason, fault)
	}
}

// refuses tells both an event that can't come.
func (p pair) refuses(e api.Event, want int) {
	p.t.Helper()
	if reason, fault := p.add(e); reason != want || fault != api.OK {
		p.t.Fatalf("P16.2: behind %v: Add(%v) = %d, %d, want %d, 0", p.plain.trace, e, reason, fault, want)
	}
}

// look holds what can be asked against the plain answers, for goroutines up to a number.
func (p pair) look(upTo int) {
	p.t.Helper()
	for g := -1; g <= upTo; g++ {
		locks, toWrite := p.checker.Held(g)
		wantLocks, wantTo := p.plain.held(g)
		if !slices.Equal(locks, wantLocks) || !slices.Equal(toWrite, wantTo) {
			p.t.Fatalf("P16.3: behind %v: Held(%d) = %v, %v, want %v, %v", p.plain.trace, g, locks, toWrite, wantLocks, wantTo)
		}
	}
	if got, want := p.checker.Alive(), p.plain.alive(); !slices.Equal(got, want) {
		p.t.Fatalf("P16.3: behind %v: Alive = %v, want %v", p.plain.trace, got, want)
	}
}

// run holds Run against the plain reading, and answers what both say: where a plain checker refuses the
// first event, and why.
func run(t *testing.T, trace []api.Event) (int, int) {
	t.Helper()
	wantPlace, wantReason, p := -1, 0, plain{}
	for place, e := range trace {
		if reason, fault := p.add(e); reason != 0 || fault != api.OK {
			wantPlace, wantReason = place, reason
			break
		}
	}
	place, reason, fault := check.Run(trace)
	if place != wantPlace || reason != wantReason || fault != api.OK {
		t.Fatalf("P16.4: Run(%v) = %d, %d, %d, want %d, %d, 0", trace, place, reason, fault, wantPlace, wantReason)
	}
	return place, reason
}
