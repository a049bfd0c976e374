package recorder_test

import (
	"slices"

	"hindsight/api"
	"hindsight/delta"
	"hindsight/event"
	"hindsight/frame"
	"hindsight/wire"
)

// The limits, as the chapters write them.
const (
	maxTape    = 67108864
	minLimit   = 64
	maxLimit   = 1048576
	maxEvents  = 1048576
	maxG       = 65536
	maxSite    = 65536
	maxStrings = 65536
	maxText    = 4194304
	maxNodes   = 262144
	maxDepth   = 16
)

// cell is a byte of a plain tape.
type cell struct {
	b           byte
	lasts, dead bool
}

// plainTape is a tape in the chapter's words, byte by byte.
type plainTape struct {
	cells []cell
	most  int
	fuse  int // the calls that are left; -1: no fuse
}

func plainLoad(b []byte, most int) (*plainTape, api.Errno) {
	if most < 0 || most > maxTape {
		return nil, api.ErrArg
	}
	if len(b) > most {
		return nil, api.ErrTape
	}
	t := &plainTape{most: most, fuse: -1}
	for _, c := range b {
		t.cells = append(t.cells, cell{b: c, lasts: true})
	}
	return t, api.OK
}

func (t *plainTape) blown() bool { return t.fuse == 0 }

// made counts a call that answers OK.
func (t *plainTape) made() api.Errno {
	if t.fuse > 0 {
		t.fuse--
	}
	return api.OK
}

func (t *plainTape) append(b []byte) api.Errno {
	if len(t.cells)+len(b) > t.most {
		return api.ErrTape
	}
	for _, c := range b {
		t.cells = append(t.cells, cell{b: c, dead: t.blown()})
	}
	return t.made()
}

func (t *plainTape) sync() api.Errno {
	if !t.blown() {
		for k := range t.cells {
			t.cells[k].lasts = true
		}
	}
	return t.made()
}

// those are the bytes of the cells of some sort.
func (t *plainTape) those(of func(cell) bool) []byte {
	var out []byte
	for _, c := range t.cells {
		if of(c) {
			out = append(out, c.b)
		}
	}
	return out
}

func (t *plainTape) bytes() []byte   { return t.those(func(cell) bool { return true }) }
func (t *plainTape) durable() []byte { return t.those(func(c cell) bool { return c.lasts }) }
func (t *plainTape) unsynced() []byte {
	return t.those(func(c cell) bool { return !c.lasts && !c.dead })
}

func (t *plainTape) setFuse(n int) api.Errno {
	if n < 0 {
		return api.ErrArg
	}
	if !t.blown() {
		t.fuse = n
	}
	return api.OK
}

func (t *plainTape) crash(keep, bit int) api.Errno {
	loose := t.unsynced()
	if keep < 0 || keep > len(loose) {
		return api.ErrArg
	}
	if bit < -1 || bit >= 8*keep {
		return api.ErrArg
	}
	stay := loose[:keep]
	if bit != -1 {
		stay[bit/8] ^= []byte{1, 2, 4, 8, 16, 32, 64, 128}[bit%8]
	}
	after, _ := plainLoad(append(t.durable(), stay...), t.most)
	*t = *after
	return api.OK
}

// step is a node: its parent's number, or 0, and its string's.
type step struct{ parent, text int }

// plain is what frames ahead tell.
type plain struct {
	frames, limit int
	texts         []string
	ids           map[string]int
	bytes         int
	nodes         []step // the node n stands at the place n - 1
	steps         map[step]int
	events        []api.Event
}

func newPlain() *plain { return &plain{ids: map[string]int{}, steps: map[step]int{}} }

// text is the number of a string that is interned behind the others.
func (p *plain) text(s string) (id int, fresh bool, e api.Errno) {
	if id, old := p.ids[s]; old {
		return id, false, api.OK
	}
	if len(s) > maxSite || len(p.texts) == maxStrings || p.bytes+len(s) > maxText {
		return 0, false, api.ErrLarge
	}
	p.ids[s] = len(p.texts)
	p.texts = append(p.texts, s)
	p.bytes += len(s)
	return len(p.texts) - 1, true, api.OK
}

// stack is the stack of a node, or of 0.
func (p *plain) stack(id int) []string {
	if id == 0 {
		return nil
	}
	n := p.nodes[id-1]
	return append([]string{p.texts[n.text]}, p.stack(n.parent)...)
}

// node is the number of a node that is put behind the others, over a parent and a string that there are.
func (p *plain) node(n step) (id int, fresh bool, e api.Errno) {
	if id := p.steps[n]; id > 0 {
		return id, false, api.OK
	}
	if len(p.nodes) == maxNodes {
		return 0, false, api.ErrLarge
	}
	if len(p.stack(n.parent)) == maxDepth {
		return 0, false, api.ErrDeep
	}
	p.nodes = append(p.nodes, n)
	p.steps[n] = len(p.nodes)
	return len(p.nodes), true, api.OK
}

// intern is P5.2 for a stack of at most MaxDepth frames. With an error p is good for nothing more.
func (p *plain) intern(stack []string) (int, api.Errno) {
	id := 0
	for _, s := range slices.Backward(stack) {
		text, _, e := p.text(s)
		if e != api.OK {
			return 0, e
		}
		if id, _, e = p.node(step{id, text}); e != api.OK {
			return 0, e
		}
	}
	return id, api.OK
}

// numbers takes numbers off the begin of a body.
func numbers(b []byte, n int) ([]uint64, []byte, bool) {
	var list []uint64
	for range n {
		x, at, e := wire.ReadUvarint(b, 0)
		if e != api.OK {
			return nil, nil, false
		}
		list, b = append(list, x), b[at:]
	}
	return list, b, true
}

// mayBe tells whether a frame may be next, in the chapter's words, and takes it in. If it may not, p is good
// for nothing more but for its events.
func (p *plain) mayBe(f api.Frame) bool {
	if f.Ord != p.frames || f.Stream != 0 {
		return false
	}
	p.frames++
	if p.frames == 1 {
		h, e := frame.DecodeHead(f.Body)
		p.limit = h.Limit
		return f.Kind == 1 && e == api.OK && h.Events == 0 && h.Streams == 0 && h.Strings == 0 && h.Nodes == 0
	}
	begin, b, ok := numbers(f.Body, 1)
	if !ok || len(b) == 0 {
		return false
	}
	switch f.Kind {
	case 2:
		return begin[0] == uint64(len(p.texts)) && p.takeTexts(b)
	case 3:
		return begin[0] == uint64(len(p.nodes)+1) && p.takeNodes(b)
	case 4:
		return begin[0] == uint64(len(p.events)) && p.takeEvents(b)
	}
	return false
}

func (p *plain) takeTexts(b []byte) bool {
	for len(b) > 0 {
		size, rest, ok := numbers(b, 1)
		if !ok || size[0] > uint64(len(rest)) {
			return false
		}
		if _, fresh, _ := p.text(string(rest[:size[0]])); !fresh {
			return false
		}
		b = rest[size[0]:]
	}
	return true
}

func (p *plain) takeNodes(b []byte) bool {
	for len(b) > 0 {
		n, rest, ok := numbers(b, 2)
		id := uint64(len(p.nodes) + 1)
		if !ok || n[0] > id-1 || n[1] >= uint64(len(p.texts)) {
			return false
		}
		if _, fresh, _ := p.node(step{int(id - 1 - n[0]), int(n[1])}); !fresh {
			return false
		}
		b = rest
	}
	return true
}

func (p *plain) takeEvents(b []byte) bool {
	var list []api.Event
	s := api.State{Stamp: len(p.events)}
	for len(b) > 0 {
		g, rest, ok := numbers(b, 1)
		place := len(p.events) + len(list)
		if !ok || g[0] >= maxG || place == maxEvents {
			return false
		}
		r, at, behind, e := delta.Get(s, rest, 0)
		if e != api.OK || r.Stamp != place || r.Stack > len(p.nodes) {
			return false
		}
		x := api.Event{G: int(g[0]), Kind: r.Kind, Obj: r.Obj, Arg: r.Arg, Stack: p.stack(r.Stack)}
		if event.Check(x) != api.OK {
			return false
		}
		list, s, b = append(list, x), behind, rest[at:]
	}
	p.events = append(p.events, list...)
	return true
}

// plainRecover is P14.5: what frames tell, and how many bytes these take.
func plainRecover(b []byte) (*plain, int) {
	p, at := newPlain(), 0
	for {
		f, next, e := frame.Decode(b, at)
		if e != api.OK {
			return p, at
		}
		events, limit := p.events, p.limit
		if !p.mayBe(f) {
			p.events, p.limit = events, limit
			return p, at
		}
		at = next
	}
}

// plainRecorder is a recorder in the chapter's words. It knows what it took, and looks up all else on the
// tape, each time anew.
type plainRecorder struct {
	tape  *plainTape
	limit int
	held  []api.Event
}

func plainNew(t *plainTape, limit int) (*plainRecorder, api.Errno) {
	if t == nil {
		return nil, api.ErrNil
	}
	if limit < minLimit || limit > maxLimit {
		return nil, api.ErrArg
	}
	if len(t.cells) == 0 {
		body, _ := frame.EncodeHead(api.Head{Limit: limit})
		b, _ := frame.Encode(api.Frame{Kind: 1, Body: body})
		if e := t.append(b); e != api.OK {
			return nil, e
		}
	} else if p, n := plainRecover(t.bytes()); n < len(t.cells) || p.limit != limit {
		return nil, api.ErrSpoilt
	}
	return &plainRecorder{tape: t, limit: limit}, api.OK
}

// known is what the tape tells; with what the held events brought, the body under way is told as well.
func (r *plainRecorder) known() (tape, all *plain, body []byte) {
	tape, _ = plainRecover(r.tape.bytes())
	all, _ = plainRecover(r.tape.bytes())
	body = wire.Uvarint(uint64(len(tape.events)))
	s := api.State{Stamp: len(tape.events)}
	for k, e := range r.held {
		id, _ := all.intern(e.Stack)
		b, next, _ := delta.Put(s, api.Rec{Stamp: len(tape.events) + k, Kind: e.Kind, Obj: e.Obj, Arg: e.Arg, Stack: id})
		body = slices.Concat(body, wire.Uvarint(uint64(e.G)), b)
		s = next
	}
	return tape, all, body
}

func (r *plainRecorder) emit(e api.Event) api.Errno {
	if fault := event.Check(e); fault != api.OK {
		return fault
	}
	tape, all, body := r.known()
	if len(tape.events)+len(r.held) == maxEvents {
		return api.ErrLarge
	}
	if len(r.held) > 0 && len(body) > r.limit-30 {
		if fault := r.flush(); fault != api.OK {
			return fault
		}
		_, all, _ = r.known()
	}
	if _, fault := all.intern(e.Stack); fault != api.OK {
		return fault
	}
	e.Stack = slices.Clone(e.Stack)
	r.held = append(r.held, e)
	return api.OK
}

// cut puts records into bodies, each of which begins with the number of its first record.
func cut(first int, records [][]byte, limit int) [][]byte {
	var out [][]byte
	for k, r := range records {
		if n := len(out) - 1; n >= 0 && len(out[n])+len(r) <= limit {
			out[n] = append(out[n], r...)
		} else {
			out = append(out, append(wire.Uvarint(uint64(first+k)), r...))
		}
	}
	return out
}

// told are the records of strings and of nodes.
func (p *plain) told(texts, nodes int) (t, n [][]byte) {
	for _, s := range p.texts[texts:] {
		t = append(t, append(wire.Uvarint(uint64(len(s))), s...))
	}
	for k, x := range p.nodes[nodes:] {
		n = append(n, append(wire.Uvarint(uint64(nodes+k-x.parent)), wire.Uvarint(uint64(x.text))...))
	}
	return t, n
}

func (r *plainRecorder) flush() api.Errno {
	if len(r.held) == 0 {
		return api.OK
	}
	tape, all, body := r.known()
	var frames []byte
	ord := tape.frames
	add := func(kind int, bodies [][]byte) {
		for _, body := range bodies {
			b, _ := frame.Encode(api.Frame{Kind: kind, Ord: ord, Body: body})
			frames = append(frames, b...)
			ord++
		}
	}
	texts, nodes := all.told(len(tape.texts), len(tape.nodes))
	add(2, cut(len(tape.texts), texts, r.limit))
	add(3, cut(len(tape.nodes)+1, nodes, r.limit))
	add(4, [][]byte{body})
	if e := r.tape.append(frames); e != api.OK {
		return e
	}
	r.held = nil
	return api.OK
}

func (r *plainRecorder) sync() api.Errno {
	if e := r.flush(); e != api.OK {
		return e
	}
	return r.tape.sync()
}

func (r *plainRecorder) len() int {
	tape, _ := plainRecover(r.tape.bytes())
	return len(tape.events) + len(r.held)
}
