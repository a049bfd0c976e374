package event_test

import (
	"math"
	"math/rand"
	"slices"
	"strings"
	"testing"

	"hindsight/api"
	"hindsight/event"
	"hindsight/samples"
	"hindsight/wire"
)

func TestNamesAndKinds(t *testing.T) {
	of := rules()
	for _, kind := range someKinds() {
		want, e := of[kind].name, api.OK
		if want == "" {
			e = api.ErrKind
		}
		if name, got := event.Name(kind); name != want || got != e {
			t.Errorf("P6.1: Name(%d) = %q, %d, want %q, %d", kind, name, got, want, e)
		}
		if want == "" {
			continue
		}
		if back, got := event.Kind(want); back != kind || got != api.OK {
			t.Errorf("P6.8: Kind(%q) = %d, %d, want %d", want, back, got, kind)
		}
	}
}

// TestNoNames: nearly all that is close to a name is none.
func TestNoNames(t *testing.T) {
	names := map[string]int{}
	for kind, r := range rules() {
		names[r.name] = kind
	}
	list := []string{"", " ", "0", "1", "22", "\x00", "lock", "rlock", "unlock", "cas", "go", "none", "access", "sync", strings.Repeat("read", 1<<16)}
	for name := range names {
		list = append(list, strings.ToUpper(name), strings.ToUpper(name[:1])+name[1:], " "+name, name+" ", name+"\x00", name+"\n", name+"s", "r"+name, name[1:], name[:len(name)-1], name+name)
		for k := range name {
			list = append(list, name[:k]+string(name[k]^1)+name[k+1:], name[:k]+string(name[k]^32)+name[k+1:])
		}
	}
	none := 0
	for _, name := range list {
		if kind, e := event.Kind(name); names[name] == 0 && (kind != 0 || e != api.ErrKind) {
			t.Errorf("P6.1: Kind(%.20q) = %d, %d", name, kind, e)
		} else if kind != names[name] {
			t.Errorf("P6.1: Kind(%.20q) = %d, want %d", name, kind, names[name])
		}
		if names[name] == 0 {
			none++
		}
	}
	if none < 300 {
		t.Errorf("the test asks for %d strings that are no names", none)
	}
}

func TestSync(t *testing.T) {
	ordering := []int{3, 4, 5, 6, 7, 8, 10, 11, 12, 13, 14, 15, 16, 17, 18, 19}
	for _, kind := range someKinds() {
		if got := event.Sync(kind); got != slices.Contains(ordering, kind) {
			t.Errorf("P6.6: Sync(%d) = %v", kind, got)
		}
	}
}

func TestCheckExamples(t *testing.T) {
	const top = math.MaxUint64
	for k, c := range []struct {
		e    api.Event
		want api.Errno
	}{
		{api.Event{Kind: 1, Obj: top - 7, Arg: 8}, api.OK},
		{api.Event{Kind: 1, Obj: top - 7, Arg: 9}, api.ErrObj},
		{api.Event{Kind: 1, Obj: top - 7, Arg: 0}, api.ErrSize},
		{api.Event{Kind: 1, Obj: top - 7, Arg: 65}, api.ErrSize},
		{api.Event{Kind: 20, Obj: top, Arg: 1}, api.OK},
		{api.Event{Kind: 20, Obj: top, Arg: 2}, api.ErrObj},
		{api.Event{Kind: 7, Arg: 0}, api.ErrSize},
		{api.Event{Kind: 7, Arg: 65535}, api.OK},
		{api.Event{Kind: 7, Arg: 65536}, api.ErrSize},
		{api.Event{Kind: 7, Obj: 1, Arg: 65535}, api.ErrObj},
		{api.Event{Kind: 7, Obj: 1, Arg: 0}, api.ErrObj},
		{api.Event{Kind: 8, Arg: 0}, api.OK},
		{api.Event{Kind: 14, Arg: 4294967294}, api.OK},
		{api.Event{Kind: 14, Arg: 4294967295}, api.ErrSize},
		{api.Event{Kind: 9, Arg: 65536}, api.OK},
		{api.Event{Kind: 12, Arg: 2}, api.ErrSize},
		{api.Event{Kind: 23, G: -1}, api.ErrKind},
		{api.Event{Kind: 1, G: 65536, Arg: 0}, api.ErrG},
		{api.Event{Kind: 22, Stack: make([]string, 17)}, api.ErrSite},
		{api.Event{Kind: 22, Stack: make([]string, 16)}, api.OK},
	} {
		if got := event.Check(c.e); got != c.want {
			t.Errorf("P6.2: Check %d = %d, want %d", k, got, c.want)
		}
	}
}

// TestIncrements: what an add may have is what wire.Zig writes of the signed numbers that it may have.
func TestIncrements(t *testing.T) {
	for by, want := range map[int64]api.Errno{
		0: api.OK, 1: api.OK, -1: api.OK, 2147483647: api.OK, -2147483647: api.OK,
		2147483648: api.ErrSize, -2147483648: api.ErrSize, math.MaxInt64: api.ErrSize, math.MinInt64: api.ErrSize,
	} {
		if got := event.Check(api.Event{Kind: api.Add, Arg: wire.Zig(by)}); got != want {
			t.Errorf("P6.2: Check of an add of %d = %d, want %d", by, got, want)
		}
	}
}

// TestCheckAndAccess asks for all combinations of what lies about the ends, against the chapter's words.
func TestCheckAndAccess(t *testing.T) {
	of, seen := rules(), samples.Seen{}
	stacks := someStacks()
	accesses := 0
	for _, kind := range someKinds() {
		for _, obj := range someObjs() {
			for _, arg := range someArgs() {
				for _, g := range []int{0, 1, 65534, 65535, 65536, 65537, -1, math.MinInt, math.MaxInt, 1 << 32} {
					for k, stack := range stacks {
						e := api.Event{G: g, Kind: kind, Obj: obj, Arg: arg, Stack: stack}
						want := plainCheck(of, e)
						seen[want]++
						if got := event.Check(e); got != want {
							t.Fatalf("P6.2: Check of kind %d, G %d, Obj %d, Arg %d, stack %d = %d, want %d", kind, g, obj, arg, k, got, want)
						}
					}
				}
				e := api.Event{G: -5, Kind: kind, Obj: obj, Arg: arg, Stack: stacks[len(stacks)-3]}
				first, last, writes, is := plainAccess(of, e)
				if gotFirst, gotLast, gotWrites, gotIs := event.Access(e); gotFirst != first || gotLast != last || gotWrites != writes || gotIs != is {
					t.Fatalf("P6.4: Access of kind %d, Obj %d, Arg %d = %d, %d, %v, %v", kind, obj, arg, gotFirst, gotLast, gotWrites, gotIs)
				}
				if is {
					accesses++
				}
			}
		}
	}
	if rare := seen.Rare(api.OK, api.ErrKind, api.ErrG, api.ErrObj, api.ErrSize, api.ErrSite); len(rare) > 0 || accesses < 100 {
		t.Errorf("hardly seen: %v; accesses: %d", rare, accesses)
	}
}

// TestEachArg: every Arg up to beyond the greatest of the small ranges, at the first bytes and at the last.
func TestEachArg(t *testing.T) {
	of := rules()
	for kind := 1; kind <= 22; kind++ {
		for arg := range uint64(65540) {
			for _, obj := range []uint64{0, math.MaxUint64 - 100, -arg, 1 - arg} {
				e := api.Event{Kind: kind, Obj: obj, Arg: arg}
				if got, want := event.Check(e), plainCheck(of, e); got != want {
					t.Fatalf("P6.2: Check of kind %d, Obj %d, Arg %d = %d, want %d", kind, obj, arg, got, want)
				}
			}
		}
	}
}

func TestAccessExamples(t *testing.T) {
	const top = math.MaxUint64
	for k, c := range []struct {
		e           api.Event
		first, last uint64
		writes, is  bool
	}{
		{api.Event{Kind: 1, Obj: 8, Arg: 4}, 8, 11, false, true},
		{api.Event{Kind: 2, Obj: top, Arg: 1}, top, top, true, true},
		{api.Event{Kind: 2, Obj: top - 63, Arg: 64}, top - 63, top, true, true},
		{api.Event{Kind: 2, Obj: top - 62, Arg: 64}, 0, 0, false, false},
		{api.Event{Kind: 2, Obj: 8, Arg: 0}, 0, 0, false, false},
		{api.Event{Kind: 1, Obj: 8, Arg: 65}, 0, 0, false, false},
		{api.Event{Kind: 20, Obj: 8, Arg: 4}, 0, 0, false, false},
		{api.Event{Kind: 17, Obj: 8, Arg: 0}, 0, 0, false, false},
		{api.Event{Kind: 0, Obj: 8, Arg: 4}, 0, 0, false, false},
		{api.Event{Kind: 1, Obj: 0, Arg: 1, G: 1 << 40}, 0, 0, false, true},
		{api.Event{Kind: 2, Obj: 0, Arg: 2, G: -1, Stack: make([]string, 17)}, 0, 1, true, true},
	} {
		first, last, writes, is := event.Access(c.e)
		if first != c.first || last != c.last || writes != c.writes || is != c.is {
			t.Errorf("P6.4: Access %d = %d, %d, %v, %v", k, first, last, writes, is)
		}
	}
}

func TestClashExamples(t *testing.T) {
	const top = math.MaxUint64
	read := api.Event{Kind: api.Read, Obj: 8, Arg: 4}
	write := func(obj, arg uint64) api.Event { return api.Event{Kind: api.Write, Obj: obj, Arg: arg} }
	for k, c := range []struct {
		a, b api.Event
		want bool
	}{
		{read, write(11, 1), true},
		{read, write(12, 1), false},
		{read, write(8, 1), true},
		{read, write(7, 1), false},
		{read, write(0, 8), false},
		{read, write(0, 64), true},
		{read, read, false},
		{write(8, 4), write(8, 4), true},
		{write(8, 4), write(11, 4), true},
		{write(8, 4), write(12, 4), false},
		{write(top, 1), write(top, 1), true},
		{write(top, 1), write(top-1, 1), false},
		{write(top, 1), write(top-1, 2), true},
		{write(top, 1), write(0, 1), false},
		{write(top-63, 64), write(0, 64), false},
		{write(top-1, 3), write(0, 1), false},   // would go over the end
		{write(top-1, 3), write(top, 1), false}, // and so it is no access
		{write(0, 1), write(0, 0), false},
		{write(0, 1), write(0, 65), false},
		{write(0, 0), write(0, 0), false},
		{write(0, 1), api.Event{Kind: api.Alloc, Arg: 1}, false},
		{write(0, 1), api.Event{Kind: api.Store}, false},
		{write(0, 1), api.Event{}, false},
		{api.Event{}, api.Event{}, false},
		{api.Event{G: 3, Kind: api.Write, Arg: 1}, api.Event{G: 3, Kind: api.Read, Arg: 1}, true},
		{api.Event{G: -3, Kind: api.Write, Arg: 1}, api.Event{G: 1 << 20, Kind: api.Read, Arg: 1, Stack: make([]string, 20)}, true},
	} {
		if got := event.Clash(c.a, c.b); got != c.want {
			t.Errorf("P6.5: Clash %d = %v", k, got)
		}
		if got := event.Clash(c.b, c.a); got != c.want {
			t.Errorf("P6.5: Clash %d, the other way round = %v", k, got)
		}
	}
}

// TestClashByteByByte: events of all kinds that lie close to each other.
func TestClashByteByByte(t *testing.T) {
	r, of := rand.New(rand.NewSource(6)), rules()
	some := func() api.Event {
		kind := 1 + r.Intn(2)
		if r.Intn(8) == 0 {
			kind = r.Intn(24)
		}
		return api.Event{G: r.Intn(3) - 1, Kind: kind, Obj: uint64(100 + r.Intn(80)), Arg: uint64(r.Intn(67))}
	}
	clashes := 0
	for range 40000 {
		a, b := some(), some()
		if r.Intn(2) == 0 {
			b.Arg = uint64(1 + r.Intn(3))
		}
		want := plainClash(of, a, b)
		if got := event.Clash(a, b); got != want {
			t.Fatalf("P6.5: Clash(%v, %v) = %v", a, b, got)
		}
		if want {
			clashes++
		}
	}
	if clashes < 5000 || clashes > 30000 {
		t.Errorf("%d clashes in the test's own samples", clashes)
	}
}

func TestSame(t *testing.T) {
	e := func() api.Event {
		return api.Event{G: 1, Kind: 2, Obj: 3, Arg: 4, Stack: []string{strings.Repeat("a", 2), "", "b"}}
	}
	if !event.Same(e(), e()) {
		t.Errorf("P6.7: an event and its like are not the same")
	}
	for k, change := range []func(*api.Event){
		func(e *api.Event) { e.G = 0 },
		func(e *api.Event) { e.G += 1 << 32 },
		func(e *api.Event) { e.Kind = 1 },
		func(e *api.Event) { e.Kind += 1 << 32 },
		func(e *api.Event) { e.Obj = 2 },
		func(e *api.Event) { e.Obj += 1 << 63 },
		func(e *api.Event) { e.Arg = 5 },
		func(e *api.Event) { e.Arg += 1 << 63 },
		func(e *api.Event) { e.G, e.Kind = e.Kind, e.G },
		func(e *api.Event) { e.Obj, e.Arg = e.Arg, e.Obj },
		func(e *api.Event) { e.Stack = nil },
		func(e *api.Event) { e.Stack = e.Stack[:2] },
		func(e *api.Event) { e.Stack = e.Stack[1:] },
		func(e *api.Event) { e.Stack = append(e.Stack, "") },
		func(e *api.Event) { e.Stack[0] = "a" },
		func(e *api.Event) { e.Stack[1] = " " },
		func(e *api.Event) { e.Stack[2] = "B" },
		func(e *api.Event) { slices.Reverse(e.Stack) },
		func(e *api.Event) { e.Stack = []string{"a", "a", "b"} },
		func(e *api.Event) { e.Stack = []string{"aab"} },
	} {
		other := e()
		change(&other)
		if event.Same(e(), other) || event.Same(other, e()) {
			t.Errorf("P6.7: change %d leaves an event the same", k)
		}
		if !event.Same(other, other) {
			t.Errorf("P6.7: change %d: an event is not the same as itself", k)
		}
	}
}

// TestSameOfAnything: the events need not be good, and a stack that is nil and an empty one are the same.
func TestSameOfAnything(t *testing.T) {
	roomy := append(make([]string, 0, 10), "a")
	for k, c := range []struct{ a, b api.Event }{
		{api.Event{}, api.Event{}},
		{api.Event{}, api.Event{Stack: []string{}}},
		{api.Event{}, api.Event{Stack: roomy[:0]}},
		{api.Event{Stack: roomy}, api.Event{Stack: []string{"a"}}},
		{api.Event{G: -1, Kind: 99, Arg: math.MaxUint64}, api.Event{G: -1, Kind: 99, Arg: math.MaxUint64}},
		{api.Event{Stack: make([]string, 1000)}, api.Event{Stack: make([]string, 1000)}},
	} {
		if !event.Same(c.a, c.b) || !event.Same(c.b, c.a) {
			t.Errorf("P6.7: pair %d is not the same", k)
		}
	}
	if event.Same(api.Event{}, api.Event{Stack: []string{""}}) {
		t.Errorf("P6.7: no stack, and one of an empty frame, are the same")
	}
}
