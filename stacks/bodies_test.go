package stacks_test

import (
	"bytes"
	"math"
	"math/rand"
	"slices"
	"testing"

	"hindsight/api"
	"hindsight/samples"
	"hindsight/stacks"
	"hindsight/strtab"
	"hindsight/wire"
)

func sameBodies(a, b [][]byte) bool {
	return slices.EqualFunc(a, b, bytes.Equal)
}

func record(id int, n step) []byte {
	return append(wire.Uvarint(uint64(id-1-n.parent)), wire.Uvarint(uint64(n.frame))...)
}

// body is a body as the chapter words it.
func body(first int, nodes ...step) []byte {
	out := wire.Uvarint(uint64(first))
	for k, n := range nodes {
		out = append(out, record(first+k, n)...)
	}
	return out
}

// bodiesOf takes for each body as many nodes as are still within the limit, one more by one more.
func bodiesOf(nodes []step, limit int) [][]byte {
	var out [][]byte
	for first := 1; first <= len(nodes); {
		size, count := len(body(first)), 0
		for first+count <= len(nodes) {
			next := len(record(first+count, nodes[first+count-1]))
			if size+next > limit {
				break
			}
			size += next
			count++
		}
		count = max(count, 1)
		out = append(out, body(first, nodes[first-1:first-1+count]...))
		first += count
	}
	return out
}

// readPlain reads bodies by the rules of P5.5, one word behind the other.
func readPlain(texts []string, bodies [][]byte, limit int) (plain, api.Errno) {
	if limit < 64 || limit > 1048576 {
		return plain{}, api.ErrArg
	}
	p := plain{texts: texts}
	for _, b := range bodies {
		first, at, e := wire.ReadUvarint(b, 0)
		if e != api.OK {
			return plain{}, e
		}
		if first != uint64(len(p.nodes)+1) {
			return plain{}, api.ErrForm
		}
		b = b[at:]
		if len(b) == 0 {
			return plain{}, api.ErrForm
		}
		for len(b) > 0 {
			at, e := p.readNode(b)
			if e != api.OK {
				return plain{}, e
			}
			b = b[at:]
		}
	}
	if !sameBodies(bodies, bodiesOf(p.nodes, limit)) {
		return plain{}, api.ErrChunk
	}
	return p, api.OK
}

func (p *plain) readNode(b []byte) (int, api.Errno) {
	own := len(p.nodes) + 1
	back, at, e := wire.ReadUvarint(b, 0)
	if e != api.OK {
		return 0, e
	}
	if !(back < uint64(own)) {
		return 0, api.ErrNode
	}
	frame, at, e := wire.ReadUvarint(b, at)
	if e != api.OK {
		return 0, e
	}
	if frame >= uint64(len(p.texts)) {
		return 0, api.ErrString
	}
	n := step{own - 1 - int(back), int(frame)}
	if len(p.stack(n.parent)) == 16 {
		return 0, api.ErrDeep
	}
	if slices.Contains(p.nodes, n) {
		return 0, api.ErrNode
	}
	if len(p.nodes) == 262144 {
		return 0, api.ErrLarge
	}
	p.nodes = append(p.nodes, n)
	return at, api.OK
}

// grown is a forest with the nodes of a plain one.
func grown(t *testing.T, p plain) (*stacks.Forest, *strtab.Table) {
	t.Helper()
	x := table(t, p.texts...)
	f := stacks.New(x)
	for k := range p.nodes {
		if id, e := f.Intern(p.stack(k + 1)); id != k+1 || e != api.OK {
			t.Fatalf("P5.2: Intern of stack %d = %d, %d", k+1, id, e)
		}
	}
	return f, x
}

// bothWays holds a forest against its bodies, written and read.
func bothWays(t *testing.T, f *stacks.Forest, x *strtab.Table, p plain, limit int, want [][]byte) {
	t.Helper()
	got, e := f.Encode(limit)
	if e != api.OK || !sameBodies(got, want) {
		t.Fatalf("P5.4: Encode(%d) of %d nodes: %d bodies, %d, want %d: %.99v", limit, len(p.nodes), len(got), e, len(want), got)
	}
	hold(t, "P5.4", f, x, p)
	g, e := stacks.Decode(x, got, limit)
	if e != api.OK {
		t.Fatalf("P5.7: Decode of what Encode(%d) answered = %d", limit, e)
	}
	hold(t, "P5.7", g, x, p)
	if again, e := g.Encode(limit); e != api.OK || !sameBodies(again, want) {
		t.Fatalf("P5.7: Encode(%d) of what was decoded: %d bodies, %d, want %d", limit, len(again), e, len(want))
	}
}

// example is the forest of the chapter's examples.
func example() plain {
	return plain{[]string{"main", "f", "g"}, []step{{0, 0}, {1, 1}, {1, 2}, {1, 0}}}
}

// chain is a forest of n nodes, each under the one ahead of it.
func chain(n int) plain {
	p := plain{texts: []string{"main"}}
	for k := range n {
		p.nodes = append(p.nodes, step{k, 0})
	}
	return p
}

// flat are n nodes without parents: their records have two bytes each, up to 128 of them.
func flat(n int) []step {
	nodes := make([]step, n)
	for k := range nodes {
		nodes[k].frame = k
	}
	return nodes
}

func TestEncodeExamples(t *testing.T) {
	for _, c := range []struct {
		p    plain
		want [][]byte
	}{
		{plain{}, nil},
		{plain{texts: []string{"main"}}, nil},
		{example(), [][]byte{{1, 0, 0, 0, 1, 1, 2, 2, 0}}},
		{chain(1), [][]byte{{1, 0, 0}}},
		{chain(16), [][]byte{append([]byte{1}, make([]byte, 32)...)}},
	} {
		f, x := grown(t, c.p)
		bothWays(t, f, x, c.p, 64, c.want)
		if want := bodiesOf(c.p.nodes, 64); !sameBodies(c.want, want) {
			t.Errorf("the test's own bodies are not those of the chapter: %v", want)
		}
	}
}

func TestWrongLimits(t *testing.T) {
	x := table(t, "main", "f", "g")
	f, y := grown(t, example())
	for _, limit := range []int{63, 0, 1, -1, -64, 1048577, 1 << 21, math.MaxInt, math.MinInt} {
		for _, f := range []*stacks.Forest{stacks.New(x), f} {
			if b, e := f.Encode(limit); len(b) != 0 || e != api.ErrArg {
				t.Errorf("P5.4: Encode(%d) = %v, %d", limit, b, e)
			}
		}
		for _, bodies := range [][][]byte{nil, {{}}, {{9}}, {{1, 0, 0}}, {{1, 0, 0}, {2, 0, 1}}} {
			if f, e := stacks.Decode(x, bodies, limit); f != nil || e != api.ErrArg {
				t.Errorf("P5.5: Decode(%v, %d) = %v, %d", bodies, limit, f, e)
			}
		}
	}
	bothWays(t, f, y, example(), api.MinLimit, [][]byte{{1, 0, 0, 0, 1, 1, 2, 2, 0}})
	bothWays(t, f, y, example(), api.MaxLimit, [][]byte{{1, 0, 0, 0, 1, 1, 2, 2, 0}})
}

func TestDecodeOverNoTable(t *testing.T) {
	for _, limit := range []int{64, 63, -1, math.MaxInt} {
		for _, bodies := range [][][]byte{nil, {{}}, {{9}}, {{1, 0, 0}}} {
			if f, e := stacks.Decode(nil, bodies, limit); f != nil || e != api.ErrNil {
				t.Errorf("P5.5: Decode(nil, %v, %d) = %v, %d", bodies, limit, f, e)
			}
		}
	}
}

// wide is a forest of nodes with parents and frames of all sizes, and so of records of two to six bytes.
func wide(r *rand.Rand, texts, nodes int) plain {
	p := plain{texts: samples.Numbered(texts)}
	depth, seen := []int{0}, map[step]int{}
	for len(p.nodes) < nodes {
		last := len(p.nodes)
		parent := last - r.Intn(min(last, 1<<r.Intn(18))+1)
		n := step{parent, r.Intn(min(texts, 1<<r.Intn(17)))}
		if depth[parent] < 16 && seen[n] == 0 {
			p.nodes = append(p.nodes, n)
			depth = append(depth, depth[parent]+1)
			seen[n] = 1
		}
	}
	return p
}

// TestRoomOfBodies: the forests are so wide that bodies end at their limit, and one to five bytes ahead of it.
func TestRoomOfBodies(t *testing.T) {
	r := rand.New(rand.NewSource(53))
	for _, nodes := range []int{1, 40, 126, 127, 128, 129, 130, 1000, 40000} {
		p := wide(r, 30000, nodes)
		f, x := grown(t, p)
		left := map[int]int{}
		for _, limit := range []int{64, 65, 66, 67, 68, 69, 70, 127, 128, 129, 16384, api.MaxLimit} {
			want := bodiesOf(p.nodes, limit)
			bothWays(t, f, x, p, limit, want)
			for _, b := range want[:len(want)-1] {
				left[limit-len(b)]++
			}
		}
		for n := range 6 {
			if nodes == 40000 && left[n] == 0 {
				t.Errorf("no body ends %d bytes ahead of its limit", n)
			}
		}
	}
}

// TestLastByte: a body of 64 bytes at the limit, and one more node that does or does not fit, worked out by hand.
func TestLastByte(t *testing.T) {
	p := plain{samples.Numbered(200), flat(31)}
	end := body(1, p.nodes...) // 63 bytes
	f, x := grown(t, p)
	bothWays(t, f, x, p, 64, [][]byte{end})
	p.nodes = append(p.nodes, step{0, 31}) // 65 bytes
	f, x = grown(t, p)
	bothWays(t, f, x, p, 64, [][]byte{end, {32, 31, 31}})
	bothWays(t, f, x, p, 65, [][]byte{append(slices.Clone(end), 31, 31)})
	// With one record of three bytes 31 of them take 64.
	p.nodes = slices.Clone(p.nodes[:31])
	p.nodes[30].frame = 128
	f, x = grown(t, p)
	bothWays(t, f, x, p, 64, [][]byte{append(slices.Clone(end[:61]), 30, 128, 1)})
	p.nodes[29].frame = 199
	f, x = grown(t, p)
	bothWays(t, f, x, p, 64, [][]byte{append(slices.Clone(end[:59]), 29, 199, 1), {31, 30, 128, 1}})
}

func TestGreatForests(t *testing.T) {
	f, x, p := great(t, api.MaxNodes)
	for _, limit := range []int{64, 65, 1000, api.MaxLimit - 1, api.MaxLimit} {
		want := bodiesOf(p.nodes, limit)
		bothWays(t, f, x, *p, limit, want)
		if len(want) < 2 {
			t.Errorf("the limit %d: %d bodies alone", limit, len(want))
		}
	}
}

func TestDecodeExamples(t *testing.T) {
	x := table(t, "main", "f", "g")
	for _, c := range []struct {
		bodies [][]byte
		nodes  int
		e      api.Errno
	}{
		{[][]byte{{1, 0, 0, 0, 1, 1, 2, 2, 0}}, 4, api.OK},
		{nil, 0, api.OK},
		{[][]byte{}, 0, api.OK},
		{[][]byte{{}}, 0, api.ErrEnd},
		{[][]byte{nil}, 0, api.ErrEnd},
		{[][]byte{{2, 0, 0}}, 0, api.ErrForm},
		{[][]byte{{1}}, 0, api.ErrForm},
		{[][]byte{{1, 1, 0}}, 0, api.ErrNode},
		{[][]byte{{1, 0, 3}}, 0, api.ErrString},
		{[][]byte{{1, 0, 0, 1, 0}}, 0, api.ErrNode},
		{[][]byte{{1, 0}}, 0, api.ErrEnd},
		{[][]byte{{1, 0, 0}, {2, 0, 1}}, 0, api.ErrChunk},
		{[][]byte{append([]byte{1}, make([]byte, 32)...)}, 16, api.OK},
		{[][]byte{append([]byte{1}, make([]byte, 34)...)}, 0, api.ErrDeep},
	} {
		f, e := stacks.Decode(x, c.bodies, 64)
		if e != c.e || (f != nil) != (e == api.OK) || f.Len() != c.nodes {
			t.Errorf("P5.5: Decode(%v) = %d nodes, %d, want %d, %d", c.bodies, f.Len(), e, c.nodes, c.e)
		}
		holdTable(t, "P5.5", x, []string{"main", "f", "g"})
	}
	f, _ := stacks.Decode(x, [][]byte{{1, 0, 0, 0, 1, 1, 2, 2, 0}}, 64)
	hold(t, "P5.5", f, x, example())
	f, _ = stacks.Decode(x, nil, 64)
	hold(t, "P5.5", f, x, plain{texts: []string{"main", "f", "g"}})
}

// TestFirstFault: where several things are not right, the first one of the order is told.
func TestFirstFault(t *testing.T) {
	texts := samples.Numbered(200)
	x := table(t, texts...)
	over := bytes.Repeat([]byte{255}, 10)
	most := append(bytes.Repeat([]byte{255}, 9), 1) // 2 to the 64 less 1
	deep := append([]byte{1}, make([]byte, 32)...)  // a chain of 16
	full := body(1, flat(31)...)                    // 63 bytes
	for _, c := range []struct {
		name   string
		bodies [][]byte
		e      api.Errno
	}{
		{"a beginning that is cut off, ahead of a second body without bytes", [][]byte{{128}, {}}, api.ErrEnd},
		{"a beginning that is too long", [][]byte{{129, 0, 0, 0}}, api.ErrLong},
		{"a beginning of more than 64 bits", [][]byte{slices.Concat(over, []byte{0, 0})}, api.ErrOver},
		{"a beginning that is 2 to the 64 less 1", [][]byte{slices.Concat(most, []byte{0, 0})}, api.ErrForm},
		{"a beginning that is 2 to the 32 and 1", [][]byte{{129, 128, 128, 128, 16, 0, 0}}, api.ErrForm},
		{"a beginning that is 0", [][]byte{{0, 0, 0}}, api.ErrForm},
		{"another beginning, and nothing behind it", [][]byte{{5}}, api.ErrForm},
		{"another beginning, and a wrong number", [][]byte{{5, 128}}, api.ErrForm},
		{"a second body that begins with 1", [][]byte{{1, 0, 0}, {1, 0, 1}}, api.ErrForm},
		{"a second body that begins with 3", [][]byte{{1, 0, 0}, {3, 0, 1}}, api.ErrForm},
		{"a second body of its beginning alone", [][]byte{full, {32}}, api.ErrForm},
		{"a second body without bytes", [][]byte{full, {}}, api.ErrEnd},
		{"a way to the parent that is cut off", [][]byte{{1, 128}}, api.ErrEnd},
		{"a way to the parent that is too long", [][]byte{{1, 128, 0, 0}}, api.ErrLong},
		{"a way to the parent of more than 64 bits", [][]byte{slices.Concat([]byte{1}, over)}, api.ErrOver},
		{"a way to the parent of 2 to the 64 less 1", [][]byte{slices.Concat([]byte{1}, most, []byte{0})}, api.ErrNode},
		{"a way to the parent of 2 to the 32", [][]byte{{1, 128, 128, 128, 128, 16, 0}}, api.ErrNode},
		{"a parent that may not be, and no frame", [][]byte{{1, 1}}, api.ErrNode},
		{"a parent that may not be, and a frame that is not there", [][]byte{{1, 0, 0, 2, 200, 1}}, api.ErrNode},
		{"a parent that may not be, and a frame that is too long", [][]byte{{1, 0, 0, 2, 128, 0}}, api.ErrNode},
		{"a parent that may be: 0", [][]byte{{1, 0, 0, 1, 1}}, api.OK},
		{"no frame", [][]byte{{1, 0, 0, 1}}, api.ErrEnd},
		{"a frame that is cut off", [][]byte{{1, 0, 128}}, api.ErrEnd},
		{"a frame that is too long", [][]byte{{1, 0, 128, 0}}, api.ErrLong},
		{"a frame of more than 64 bits", [][]byte{slices.Concat([]byte{1, 0}, over)}, api.ErrOver},
		{"a frame of 2 to the 64 less 1", [][]byte{slices.Concat([]byte{1, 0}, most)}, api.ErrString},
		{"a frame of 2 to the 32", [][]byte{{1, 0, 128, 128, 128, 128, 16}}, api.ErrString},
		{"the last frame of the table", [][]byte{{1, 0, 199, 1}}, api.OK},
		{"the frame behind it", [][]byte{{1, 0, 200, 1}}, api.ErrString},
		{"a frame that is not there, under a parent of the greatest depth", [][]byte{append(slices.Clone(deep), 0, 200, 1)}, api.ErrString},
		{"a parent of the greatest depth", [][]byte{append(slices.Clone(deep), 0, 7)}, api.ErrDeep},
		{"a parent a frame less deep, a new frame", [][]byte{append(slices.Clone(deep), 1, 7)}, api.OK},
		{"a parent a frame less deep, a node twice", [][]byte{append(slices.Clone(deep), 1, 0)}, api.ErrNode},
		{"a node twice, in two bodies", [][]byte{{1, 0, 0}, {2, 1, 0}}, api.ErrNode},
		{"a node twice, ahead of a number that is cut off", [][]byte{{1, 0, 0, 1, 0, 128}}, api.ErrNode},
		{"one frame under unlike parents", [][]byte{{1, 0, 0, 0, 0}}, api.OK},
		{"a body behind one that is full", [][]byte{full, {32, 31, 31}}, api.OK},
		{"a body that could take one more", [][]byte{full[:61], {31, 30, 30, 31, 31}}, api.ErrChunk},
		{"a body that is longer than the limit", [][]byte{append(slices.Clone(full), 31, 31)}, api.ErrChunk},
		{"bodies cut wrong, and a fault behind them", [][]byte{{1, 0, 0}, {2, 1, 1, 0}}, api.ErrEnd},
	} {
		f, e := stacks.Decode(x, c.bodies, 64)
		if e != c.e || (f != nil) != (e == api.OK) {
			t.Errorf("P5.5: %s: Decode = %d nodes, %d, want %d", c.name, f.Len(), e, c.e)
		}
		if _, want := readPlain(texts, c.bodies, 64); want != c.e {
			t.Errorf("the test's own reading, %s: %d, want %d", c.name, want, c.e)
		}
		holdTable(t, "P5.5", x, texts)
	}
}

// TestPastFull: what comes behind the bodies of a forest that takes no more.
func TestPastFull(t *testing.T) {
	f, x, p := great(t, api.MaxNodes-15)
	// The outermost of these frames has a node already: 15 are new, and the last of them lies deepest.
	if id, e := f.Intern(slices.Repeat(p.texts[9:10], 16)); id != api.MaxNodes || e != api.OK {
		t.Fatalf("P5.2: Intern = %d, %d", id, e)
	}
	full, e := f.Encode(api.MaxLimit)
	if e != api.OK {
		t.Fatalf("P5.4: Encode = %d", e)
	}
	own := wire.Uvarint(api.MaxNodes + 1)
	for _, c := range []struct {
		name string
		more []byte
		e    api.Errno
	}{
		{"a new node", []byte{1, 7}, api.ErrLarge},
		{"a node that lies too deep", []byte{0, 7}, api.ErrDeep},
		{"an old node", []byte{1, 9}, api.ErrNode},
		{"no node", nil, api.ErrForm},
		{"a parent that may not be", append(slices.Clone(own), 0), api.ErrNode},
		{"an old node under 0", append(wire.Uvarint(api.MaxNodes), 9), api.ErrNode},
		{"a frame that is not there", []byte{0, 128, 128, 4}, api.ErrString},
		{"a number that is cut off", []byte{0, 128}, api.ErrEnd},
	} {
		b := append(slices.Clone(full), append(slices.Clone(own), c.more...))
		if g, e := stacks.Decode(x, b, api.MaxLimit); e != c.e || g != nil {
			t.Errorf("P5.5: %s: Decode = %d nodes, %d, want %d", c.name, g.Len(), e, c.e)
		}
		last := len(full) - 1
		b = slices.Clone(full)
		b[last] = append(slices.Clone(b[last]), c.more...)
		want := c.e
		if len(c.more) == 0 {
			want = api.OK
		}
		if g, e := stacks.Decode(x, b, api.MaxLimit); e != want || (g != nil) != (e == api.OK) {
			t.Errorf("P5.5: %s, in the last body: Decode = %d nodes, %d, want %d", c.name, g.Len(), e, want)
		}
	}
}

// readAs holds Decode against the plain reading.
func readAs(t *testing.T, seen samples.Seen, x *strtab.Table, texts []string, bodies [][]byte, limit int) {
	t.Helper()
	want, fault := readPlain(texts, bodies, limit)
	f, e := stacks.Decode(x, bodies, limit)
	seen[e]++
	if e != fault || (f != nil) != (e == api.OK) {
		t.Fatalf("P5.5: Decode(%.99v, %d) = %d nodes, %d, want %d", bodies, limit, f.Len(), e, fault)
	}
	holdTable(t, "P5.5", x, texts)
	if e != api.OK {
		return
	}
	hold(t, "P5.5", f, x, want)
	if again, e := f.Encode(limit); e != api.OK || !sameBodies(again, bodies) {
		t.Fatalf("P5.7: Encode of Decode(%.99v, %d) = %.99v, %d", bodies, limit, again, e)
	}
}

func TestEverySmallBody(t *testing.T) {
	seen := samples.Seen{}
	texts := []string{"main", "f"}
	x := table(t, texts...)
	for _, b := range samples.AllBodies(7, 0, 1, 2, 128) {
		readAs(t, seen, x, texts, [][]byte{b}, 64)
	}
	more := samples.AllBodies(5, 0, 1, 2, 3, 4)
	for _, b := range more {
		// Of a first body that can't be read the error is told, whatever comes behind it.
		if _, e := readPlain(texts, [][]byte{b}, 64); e != api.OK && len(b) > 2 {
			continue
		}
		for _, c := range more {
			readAs(t, seen, x, texts, [][]byte{b, c}, 64)
		}
	}
	if rare := seen.Rare(api.OK, api.ErrEnd, api.ErrLong, api.ErrString, api.ErrForm, api.ErrChunk, api.ErrNode); len(rare) > 0 {
		t.Errorf("the errors %v were answered few times alone", rare)
	}
}

// damage changes good bodies of fewer than 128 nodes in one of many ways.
func damage(r *rand.Rand, bodies [][]byte) [][]byte {
	if r.Intn(10) > 0 {
		return samples.Damage(r.Intn, bodies)
	}
	// Behind a body come nodes, each under the one ahead of it.
	k := r.Intn(len(bodies))
	bodies[k] = slices.Concat(bodies[k], make([]byte, 2*r.Intn(17)))
	return bodies
}

func TestDamagedBodies(t *testing.T) {
	r := rand.New(rand.NewSource(55))
	seen := samples.Seen{}
	texts := samples.Numbered(150)
	x := table(t, texts...)
	for range 30000 {
		limit := 64 + r.Intn(4)
		nodes := wide(r, 3+r.Intn(len(texts)-2), 1+r.Intn(60)).nodes
		readAs(t, seen, x, texts, damage(r, bodiesOf(nodes, limit)), limit+r.Intn(2))
	}
	if rare := seen.Rare(api.OK, api.ErrEnd, api.ErrLong, api.ErrOver, api.ErrString, api.ErrForm, api.ErrChunk, api.ErrDeep, api.ErrNode); len(rare) > 0 {
		t.Errorf("the errors %v were answered few times alone", rare)
	}
}

// TestOneRowOfBodies cuts the nodes of a forest in every way there is: one alone is read.
func TestOneRowOfBodies(t *testing.T) {
	p := wide(rand.New(rand.NewSource(56)), 150, 36)
	f, x := grown(t, p)
	for _, limit := range []int{64, 65, 66, 80} {
		want, read := bodiesOf(p.nodes, limit), 0
		for one := 1; one <= len(p.nodes); one++ {
			for two := one; two <= len(p.nodes); two++ {
				var cut [][]byte
				for _, ends := range [][2]int{{0, one}, {one, two}, {two, len(p.nodes)}} {
					if ends[0] < ends[1] {
						cut = append(cut, body(ends[0]+1, p.nodes[ends[0]:ends[1]]...))
					}
				}
				g, e := stacks.Decode(x, cut, limit)
				if same := sameBodies(cut, want); same != (e == api.OK) || !same && e != api.ErrChunk {
					t.Fatalf("P5.5: nodes cut at %d and %d: %d", one, two, e)
				}
				if e == api.OK {
					read++
					hold(t, "P5.7", g, x, p)
				}
			}
		}
		if read == 0 {
			t.Errorf("P5.7: for the limit %d there is no row of bodies", limit)
		}
	}
	hold(t, "P5.4", f, x, p)
}
