package stacks_test

import (
	"fmt"
	"math"
	"math/rand"
	"slices"
	"strings"
	"testing"

	"hindsight/api"
	"hindsight/samples"
	"hindsight/stacks"
	"hindsight/strtab"
)

// step is a node: the number of its parent, and that of its frame.
type step struct{ parent, frame int }

// plain is a table and a forest over it as the promises word them: lists, gone through for each question.
type plain struct {
	texts []string
	nodes []step
}

func (p *plain) text(s string) (int, api.Errno) {
	if k := slices.Index(p.texts, s); k >= 0 {
		return k, api.OK
	}
	if len(s) > 65536 || len(p.texts) == 65536 || len(strings.Join(p.texts, ""))+len(s) > 4194304 {
		return 0, api.ErrLarge
	}
	p.texts = append(p.texts, s)
	return len(p.texts) - 1, api.OK
}

// intern goes the way of P5.2 on copies, so that nothing is changed if it is not gone to its end.
func (p *plain) intern(stack []string) (int, api.Errno) {
	if len(stack) > 16 {
		return 0, api.ErrDeep
	}
	q, id := plain{slices.Clone(p.texts), slices.Clone(p.nodes)}, 0
	for k := len(stack) - 1; k >= 0; k-- {
		frame, e := q.text(stack[k])
		if e != api.OK {
			return 0, e
		}
		n := step{id, frame}
		id = slices.Index(q.nodes, n) + 1
		if id == 0 {
			if len(q.nodes) == 262144 {
				return 0, api.ErrLarge
			}
			q.nodes = append(q.nodes, n)
			id = len(q.nodes)
		}
	}
	*p = q
	return id, api.OK
}

// stack is a frame's string, and behind that the stack of the parent.
func (p *plain) stack(id int) (frames []string) {
	for ; id != 0; id = p.nodes[id-1].parent {
		frames = append(frames, p.texts[p.nodes[id-1].frame])
	}
	return frames
}

func table(t *testing.T, list ...string) *strtab.Table {
	t.Helper()
	x := strtab.New()
	for k, s := range list {
		if id, e := x.Intern(s); id != k || e != api.OK {
			t.Fatalf("P4.2: Intern(%.20q) = %d, %d, want %d", s, id, e, k)
		}
	}
	return x
}

func holdTable(t *testing.T, promise string, x *strtab.Table, want []string) {
	t.Helper()
	if x.Len() != len(want) {
		t.Fatalf("%s: the table has %d strings, want %d", promise, x.Len(), len(want))
	}
	for k, s := range want {
		if got, e := x.Text(k); got != s || e != api.OK {
			t.Fatalf("%s: the table's string %d is %.20q, want %.20q", promise, k, got, s)
		}
	}
}

// hold holds a forest and its table against plain ones: all that can be asked of them, but their bodies.
func hold(t *testing.T, promise string, f *stacks.Forest, x *strtab.Table, p plain) {
	t.Helper()
	holdTable(t, promise, x, p.texts)
	if f == nil || f.Len() != len(p.nodes) {
		t.Fatalf("%s: Len %d, want %d", promise, f.Len(), len(p.nodes))
	}
	for id := range len(p.nodes) + 1 {
		if got, e := f.Stack(id); !slices.Equal(got, p.stack(id)) || e != api.OK {
			t.Fatalf("%s: Stack(%d) = %.99q, %d, want %.99q", promise, id, got, e, p.stack(id))
		}
	}
	for _, id := range []int{len(p.nodes) + 1, len(p.nodes) + 2, -1, -2, math.MaxInt, math.MinInt, 1 << 32} {
		if got, e := f.Stack(id); len(got) != 0 || e != api.ErrStack {
			t.Fatalf("%s: Stack(%d) of %d nodes = %.99q, %d", promise, id, len(p.nodes), got, e)
		}
	}
}

// TestExamples: those of the chapter that are about numbers of stacks.
func TestExamples(t *testing.T) {
	x := strtab.New()
	f := stacks.New(x)
	for _, c := range []struct {
		stack []string
		id    int
	}{{[]string{"f", "main"}, 2}, {[]string{"g", "main"}, 3}, {[]string{"main"}, 1}, {nil, 0}, {[]string{}, 0}, {[]string{"main", "main"}, 4}} {
		if id, e := f.Intern(c.stack); id != c.id || e != api.OK {
			t.Errorf("P5.2: Intern(%q) = %d, %d, want %d", c.stack, id, e, c.id)
		}
	}
	want := plain{[]string{"main", "f", "g"}, []step{{0, 0}, {1, 1}, {1, 2}, {1, 0}}}
	hold(t, "P5.2", f, x, want)
	for id, s := range [][]string{nil, {"main"}, {"f", "main"}, {"g", "main"}, {"main", "main"}} {
		if got, e := f.Stack(id); !slices.Equal(got, s) || e != api.OK {
			t.Errorf("P5.3: Stack(%d) = %q, %d, want %q", id, got, e, s)
		}
	}
	for _, id := range []int{5, -1} {
		if got, e := f.Stack(id); len(got) != 0 || e != api.ErrStack {
			t.Errorf("P5.3: Stack(%d) = %q, %d", id, got, e)
		}
	}
	if id, e := f.Intern(make([]string, 17)); id != 0 || e != api.ErrDeep {
		t.Errorf("P5.2: Intern of 17 frames = %d, %d", id, e)
	}
	hold(t, "P0.2", f, x, want)
	y := strtab.New()
	g := stacks.New(y)
	if id, e := g.Intern([]string{strings.Repeat("x", 65537), "main"}); id != 0 || e != api.ErrLarge {
		t.Errorf("P5.2: Intern of a frame of 65537 bytes = %d, %d", id, e)
	}
	hold(t, "P5.2", g, y, plain{})
}

func TestNew(t *testing.T) {
	if f := stacks.New(nil); f != nil {
		t.Errorf("P5.1: a forest over no table: %v", f)
	}
	for _, texts := range [][]string{nil, {"main"}, {"f", "", "main"}} {
		x := table(t, texts...)
		f := stacks.New(x)
		hold(t, "P5.1", f, x, plain{texts: texts})
		if b, e := f.Encode(64); len(b) != 0 || e != api.OK {
			t.Errorf("P5.1: Encode of a forest without nodes = %v, %d", b, e)
		}
	}
}

// someStack is one of few enough frames that many outer parts come again.
func someStack(r *rand.Rand, most int) []string {
	stack := make([]string, r.Intn(most+1))
	for k := range stack {
		stack[k] = []string{"", "a", "b", "\xff", "ab"}[r.Intn(5)]
	}
	return stack
}

// outerParts are the unlike outer parts of stacks, in the order of their first use.
func outerParts(list [][]string) [][]string {
	var parts [][]string
	for _, s := range list {
		for k := len(s) - 1; k >= 0; k-- {
			if indexOf(parts, s[k:]) < 0 {
				parts = append(parts, s[k:])
			}
		}
	}
	return parts
}

func indexOf(list [][]string, s []string) int {
	return slices.IndexFunc(list, func(o []string) bool { return slices.Equal(o, s) })
}

func TestNumbersOfFirstUse(t *testing.T) {
	r := rand.New(rand.NewSource(51))
	for range 300 {
		var list [][]string
		for range 1 + r.Intn(40) {
			list = append(list, someStack(r, []int{3, 16}[r.Intn(2)]))
		}
		parts := outerParts(list)
		x := strtab.New()
		f := stacks.New(x)
		for _, s := range list {
			want := indexOf(parts, s) + 1 // the empty stack is no part: 0
			if id, e := f.Intern(s); id != want || e != api.OK {
				t.Fatalf("P5.6: Intern(%q) = %d, %d, want %d", s, id, e, want)
			}
		}
		if f.Len() != len(parts) {
			t.Fatalf("P5.6: %d nodes of %d outer parts", f.Len(), len(parts))
		}
		for k, s := range parts {
			if got, e := f.Stack(k + 1); !slices.Equal(got, s) || e != api.OK {
				t.Fatalf("P5.6: Stack(%d) = %q, %d, want %q", k+1, got, e, s)
			}
			if id, e := f.Intern(s); id != k+1 || e != api.OK {
				t.Fatalf("P5.6: a second Intern(%q) = %d, %d, want %d", s, id, e, k+1)
			}
		}
	}
}

// both interns a stack into a forest and into a plain one, whose answer must be an error that the test
// knows, and holds the one against the other.
func both(t *testing.T, f *stacks.Forest, x *strtab.Table, p *plain, stack []string, fault api.Errno) {
	t.Helper()
	want, e := p.intern(stack)
	if e != fault {
		t.Fatalf("the test's own forest: Intern(%.60q) = %d, %d, want %d", stack, want, e, fault)
	}
	if id, e := f.Intern(stack); id != want || e != fault {
		t.Fatalf("P5.2: Intern(%.60q) into %d nodes over %d strings of %d bytes = %d, %d, want %d, %d", stack, f.Len(), x.Len(), x.Bytes(), id, e, want, fault)
	}
	hold(t, "P5.2", f, x, *p)
}

// TestTableOfMany: two forests and somebody else put strings into one table.
func TestTableOfMany(t *testing.T) {
	r := rand.New(rand.NewSource(52))
	for range 60 {
		x, texts := table(t, "b", "zz"), []string{"b", "zz"}
		fs, ps := []*stacks.Forest{stacks.New(x), stacks.New(x)}, make([]plain, 2)
		for range 40 {
			if r.Intn(4) == 0 {
				s := plain{texts: texts}
				s.text(fmt.Sprint(r.Intn(9)))
				texts = s.texts
				x.Intern(texts[len(texts)-1])
			}
			k, s, fault := r.Intn(2), someStack(r, 18), api.OK
			if len(s) > 16 {
				fault = api.ErrDeep
			}
			ps[k].texts = texts
			both(t, fs[k], x, &ps[k], s, fault)
			texts = ps[k].texts
			ps[1-k].texts = texts
			hold(t, "P0.3", fs[1-k], x, ps[1-k])
		}
	}
}

// over is a forest without nodes, its table, and the same as plain ones.
func over(t *testing.T, texts ...string) (*stacks.Forest, *strtab.Table, *plain) {
	t.Helper()
	x := table(t, texts...)
	return stacks.New(x), x, &plain{texts: texts}
}

func TestDepth(t *testing.T) {
	for n := range 40 {
		f, x, p := over(t)
		both(t, f, x, p, []string{"main"}, api.OK)
		fault := api.OK
		if n+1 > 16 {
			fault = api.ErrDeep
		}
		both(t, f, x, p, append(samples.Numbered(n), "main"), fault)
		both(t, f, x, p, make([]string, n+1), fault)
	}
	f, x, p := over(t)
	both(t, f, x, p, make([]string, 100000), api.ErrDeep)
	// Both errors are due: too many frames is named first.
	long := strings.Repeat("x", api.MaxSite+1)
	both(t, f, x, p, append(make([]string, 16), long), api.ErrDeep)
	both(t, f, x, p, append(make([]string, 15), long), api.ErrLarge)
}

func TestLongFrames(t *testing.T) {
	long := strings.Repeat("x", api.MaxSite+1)
	for n := 1; n <= 16; n++ {
		for at := range n {
			f, x, p := over(t, "b")
			both(t, f, x, p, []string{"a", "b"}, api.OK)
			stack := samples.Numbered(n)
			stack[n-1] = "b"
			stack[at] = long
			both(t, f, x, p, stack, api.ErrLarge)
			stack[at] = long[1:]
			both(t, f, x, p, stack, api.OK)
		}
	}
	f, x, p := over(t)
	both(t, f, x, p, []string{strings.Repeat("x", api.MaxText+1)}, api.ErrLarge)
}

// TestManyStrings: a table to which few strings, or none, may still be added.
func TestManyStrings(t *testing.T) {
	list := samples.Numbered(api.MaxStrings)
	for room := range 4 {
		old, fresh := list[room:], append(slices.Clone(list[:room]), "one too many")
		f, x, p := over(t, old...)
		both(t, f, x, p, old[:3], api.OK)
		both(t, f, x, p, fresh, api.ErrLarge)
		both(t, f, x, p, slices.Concat(old[7:9], fresh), api.ErrLarge)
		both(t, f, x, p, slices.Concat(fresh, old[:3]), api.ErrLarge)
		both(t, f, x, p, slices.Concat(fresh[room:], old[:3], fresh[:room]), api.ErrLarge)
		// Twice in a stack is once in the table.
		both(t, f, x, p, slices.Concat(fresh[:room], old[:3], fresh[:room]), api.OK)
		both(t, f, x, p, []string{""}, api.ErrLarge)
		both(t, f, x, p, slices.Concat(old[7:9], fresh[:room], old[:3]), api.OK)
	}
}

// TestMuchText: a table to which few bytes, or none, may still be added.
func TestMuchText(t *testing.T) {
	list := samples.Longest(api.MaxText / api.MaxSite)
	last := len(list) - 1
	for room := range 5 {
		texts := slices.Clone(list)
		texts[last] = texts[last][room:]
		f, x, p := over(t, texts...)
		both(t, f, x, p, list[:2], api.OK)
		just, more := strings.Repeat("z", room), strings.Repeat("y", room+1)
		both(t, f, x, p, []string{more}, api.ErrLarge)
		both(t, f, x, p, []string{list[0], more, list[1]}, api.ErrLarge)
		both(t, f, x, p, []string{just, "w"}, api.ErrLarge)
		both(t, f, x, p, []string{"w", "", just, list[0], list[1]}, api.ErrLarge)
		// Twice in a stack is once in the table.
		both(t, f, x, p, []string{just, list[0], just, just, list[1]}, api.OK)
		both(t, f, x, p, []string{"w"}, api.ErrLarge)
		both(t, f, x, p, []string{"", list[0], "", list[1]}, api.OK)
	}
}

// great is a forest of n nodes over a full table: below 0 each string, then each string below the first
// of these, below the first of those, and so on.
func great(t *testing.T, n int) (*stacks.Forest, *strtab.Table, *plain) {
	t.Helper()
	f, x, p := over(t, samples.Numbered(api.MaxStrings)...)
	for k := range n {
		outer := slices.Repeat(p.texts[:1], k/api.MaxStrings)
		parent, _ := f.Intern(outer)
		p.nodes = append(p.nodes, step{parent, k % api.MaxStrings})
		if id, e := f.Intern(append([]string{p.texts[k%api.MaxStrings]}, outer...)); id != k+1 || e != api.OK {
			t.Fatalf("P5.2: Intern of stack %d = %d, %d", k+1, id, e)
		}
	}
	return f, x, p
}

// TestManyNodes: a forest to which few nodes, or none, may still be added.
func TestManyNodes(t *testing.T) {
	for room := range 4 {
		f, x, p := great(t, api.MaxNodes-room)
		// The shortest outer part of these stacks has a node already.
		deep := slices.Repeat([]string{p.texts[9]}, 16)
		both(t, f, x, p, deep[:room+2], api.ErrLarge)
		both(t, f, x, p, deep, api.ErrLarge)
		both(t, f, x, p, append(deep, ""), api.ErrDeep)
		both(t, f, x, p, deep[:room+1], api.OK)
		both(t, f, x, p, deep[:room+2], api.ErrLarge)
		both(t, f, x, p, deep[:room+1], api.OK)
		both(t, f, x, p, nil, api.OK)
		if f.Len() != api.MaxNodes {
			t.Fatalf("P5.3: Len %d", f.Len())
		}
		for id := 1; id <= api.MaxNodes; id++ {
			if got, e := f.Intern(p.stack(id)); got != id || e != api.OK {
				t.Fatalf("P5.2: an old stack of a full forest: %d, %d, want %d", got, e, id)
			}
		}
	}
}

func TestNoForest(t *testing.T) {
	// One that New did not make stands over no table: it answers as no forest does, and does not panic.
	for _, f := range []*stacks.Forest{nil, new(stacks.Forest)} {
		for _, s := range [][]string{nil, {"main"}, make([]string, 17), {strings.Repeat("x", api.MaxSite+1)}} {
			if id, e := f.Intern(s); id != 0 || e != api.ErrNil {
				t.Errorf("P5.8: Intern(%.20q) on nil = %d, %d", s, id, e)
			}
		}
		for _, n := range []int{0, 1, -1, 64, math.MaxInt} {
			if s, e := f.Stack(n); len(s) != 0 || e != api.ErrNil {
				t.Errorf("P5.8: Stack(%d) on nil = %q, %d", n, s, e)
			}
			if b, e := f.Encode(n); len(b) != 0 || e != api.ErrNil {
				t.Errorf("P5.8: Encode(%d) on nil = %v, %d", n, b, e)
			}
		}
		if f.Len() != 0 {
			t.Errorf("P5.8: Len %d on nil", f.Len())
		}
	}
}
