package salvage_test

import (
	"bytes"
	"slices"
	"testing"

	"hindsight/api"
	"hindsight/crc"
	"hindsight/event"
	"hindsight/file"
	"hindsight/frame"
	"hindsight/salvage"
	"hindsight/stream"
	"hindsight/wire"
)

// The limits, as the chapters write them.
const (
	maxFile    = 67108864
	maxBody    = 2097152
	maxSite    = 65536
	maxStrings = 65536
	maxNodes   = 262144
	maxDepth   = 16
	maxEvents  = 1048576
	maxText    = 4194304
)

// plainLength is the length that the right top at a place tells, in the chapter's words.
func plainLength(b []byte, p int) (n int, right bool) {
	if len(b)-p < 16 {
		return 0, false
	}
	top := b[p : p+16]
	fourAt := func(k int) int {
		return int(top[k]) + 256*int(top[k+1]) + 65536*int(top[k+2]) + 16777216*int(top[k+3])
	}
	n = fourAt(8)
	return n, top[0] == 167 && fourAt(12) == int(crc.Sum(top[:12])) && top[1] != 0 && n <= maxBody
}

// runs are the places of which something is so, as runs.
func runs(so []bool) []api.Span {
	var out []api.Span
	for p := 0; p < len(so); p++ {
		from := p
		for p < len(so) && so[p] {
			p++
		}
		if p > from {
			out = append(out, api.Span{From: from, To: p})
		}
	}
	return out
}

func fill(so []bool, from, to int) {
	for p := from; p < to; p++ {
		so[p] = true
	}
}

// plainScan is P13.1.
func plainScan(b []byte) ([]api.Spot, []api.Span) {
	var spots []api.Spot
	none := make([]bool, len(b))
	for p := 0; p < len(b); {
		f, to, e := frame.Decode(b, p)
		if e != api.OK {
			none[p] = true
			p++
			continue
		}
		s := api.Spot{Kind: f.Kind, Stream: f.Stream, Ord: f.Ord, From: p, To: to, First: -1, Last: -1}
		if recs, e := stream.Chunk(f.Body); f.Kind == 4 && e == api.OK {
			s.First, s.Last, s.Count = recs[0].Stamp, recs[len(recs)-1].Stamp, len(recs)
		}
		spots = append(spots, s)
		p = to
	}
	return spots, runs(none)
}

// plainWalk are the frames that the walk finds, and the bad bytes.
func plainWalk(b []byte) ([]api.Frame, []api.Span) {
	var found []api.Frame
	bad := make([]bool, len(b))
	for p := 0; p < len(b); {
		n, right := plainLength(b, p)
		if !right || len(b)-p < 20+n {
			fill(bad, p, len(b))
			break
		}
		f, _, e := frame.Decode(b, p)
		if e != api.OK {
			fill(bad, p, p+20+n)
		} else {
			found = append(found, f)
		}
		p += 20 + n
	}
	return found, runs(bad)
}

type plainNode struct {
	parent int
	frame  uint64
}

// plainTold is what frames tell.
type plainTold struct {
	texts map[uint64]string
	nodes map[int]plainNode
	recs  []api.Rec
	gs    []int // whose they are
}

func plainTell(found []api.Frame) *plainTold {
	told := &plainTold{texts: map[uint64]string{}, nodes: map[int]plainNode{}}
	for _, f := range found {
		switch {
		case f.Kind == 2 && f.Stream == 0:
			first, texts, _ := plainTexts(f.Body)
			for k, text := range texts {
				if _, again := told.texts[first+uint64(k)]; !again {
					told.texts[first+uint64(k)] = text
				}
			}
		case f.Kind == 3 && f.Stream == 0:
			first, nodes, _ := plainNodes(f.Body)
			for k, n := range nodes {
				if _, again := told.nodes[first+k]; !again {
					told.nodes[first+k] = n
				}
			}
		case f.Kind == 4:
			recs, e := stream.Chunk(f.Body)
			if e != api.OK {
				continue
			}
			for _, r := range recs {
				told.recs, told.gs = append(told.recs, r), append(told.gs, f.Stream)
			}
		}
	}
	return told
}

// plainTexts reads a body of strings, if it can be read.
func plainTexts(body []byte) (first uint64, texts []string, can bool) {
	first, at, e := wire.ReadUvarint(body, 0)
	if e != api.OK || at == len(body) {
		return 0, nil, false
	}
	for at < len(body) {
		size, next, e := wire.ReadUvarint(body, at)
		if e != api.OK || size > maxSite || next+int(size) > len(body) {
			return 0, nil, false
		}
		at = next + int(size)
		texts = append(texts, string(body[next:at]))
	}
	if first >= maxStrings || int(first)+len(texts)-1 >= maxStrings {
		return 0, nil, false
	}
	return first, texts, true
}

// plainNodes reads a body of nodes, if it can be read.
func plainNodes(body []byte) (first int, nodes []plainNode, can bool) {
	begin, at, e := wire.ReadUvarint(body, 0)
	if e != api.OK || at == len(body) || begin < 1 || begin > maxNodes {
		return 0, nil, false
	}
	for at < len(body) {
		back, next, e := wire.ReadUvarint(body, at)
		if e != api.OK {
			return 0, nil, false
		}
		text, next, e := wire.ReadUvarint(body, next)
		number := int(begin) + len(nodes)
		if e != api.OK || back > 1<<40 || number-1-int(back) < 0 {
			return 0, nil, false
		}
		at = next
		nodes = append(nodes, plainNode{number - 1 - int(back), text})
	}
	if int(begin)+len(nodes)-1 > maxNodes {
		return 0, nil, false
	}
	return int(begin), nodes, true
}

// stack is the stack of a number, if it is known.
func (told *plainTold) stack(number int) ([]string, bool) {
	if number == 0 {
		return nil, true
	}
	n, is := told.nodes[number]
	if !is {
		return nil, false
	}
	text, is := told.texts[n.frame]
	if !is {
		return nil, false
	}
	outer, known := told.stack(n.parent)
	if !known || 1+len(outer) > maxDepth {
		return nil, false
	}
	return append([]string{text}, outer...), true
}

// events are those of the sure records, by their stamps.
func (told *plainTold) events() map[int]api.Event {
	out := map[int]api.Event{}
	for k, r := range told.recs {
		stack, known := told.stack(r.Stack)
		e := api.Event{G: told.gs[k], Kind: r.Kind, Obj: r.Obj, Arg: r.Arg, Stack: stack}
		if !known || event.Check(e) != api.OK {
			continue
		}
		if _, again := out[r.Stamp]; !again {
			out[r.Stamp] = e
		}
	}
	return out
}

// plainSave is P13.2.
func plainSave(b []byte) api.Rescue {
	found, bad := plainWalk(b)
	r := api.Rescue{Bad: bad}
	events := plainTell(found).events()
	for stamp := range events {
		r.Stamps = append(r.Stamps, stamp)
	}
	slices.Sort(r.Stamps)
	for _, stamp := range r.Stamps {
		r.Events = append(r.Events, events[stamp])
	}
	for slices.Contains(r.Stamps[min(r.Prefix, len(r.Stamps)):], r.Prefix) {
		r.Prefix++
	}
	_, e := file.Load(b)
	r.Whole = e == api.OK
	return r
}

// plainMend is P13.3.
func plainMend(b []byte) ([]byte, api.Errno) {
	first, _, e := frame.Decode(b, 0)
	if e != api.OK || first.Kind != 1 {
		return nil, api.ErrHead
	}
	head, e := frame.DecodeHead(first.Body)
	if e != api.OK {
		return nil, api.ErrHead
	}
	r := plainSave(b)
	return file.Record(r.Events[:r.Prefix], head.Limit)
}

func sameTrace(a, b []api.Event) bool { return slices.EqualFunc(a, b, event.Same) }

func sameRescue(a, b api.Rescue) bool {
	return sameTrace(a.Events, b.Events) && slices.Equal(a.Stamps, b.Stamps) && slices.Equal(a.Bad, b.Bad) &&
		a.Prefix == b.Prefix && a.Whole == b.Whole
}

// scans holds what Scan answers against what it must.
func scans(t *testing.T, what string, b []byte, spots []api.Spot, between []api.Span) {
	t.Helper()
	s, r, e := salvage.Scan(b)
	if e != api.OK || !slices.Equal(s, spots) || !slices.Equal(r, between) {
		t.Fatalf("P13.1: %s: Scan = %v, %v, %d, want %v, %v", what, s, r, e, spots, between)
	}
}

// saves holds what Save answers against what it must.
func saves(t *testing.T, what string, b []byte, want api.Rescue) {
	t.Helper()
	got, e := salvage.Save(b)
	if e != api.OK || !sameRescue(got, want) {
		t.Fatalf("P13.2: %s: Save = %d: stamps %v, bad %v, prefix %d, whole %v, %d events; want stamps %v, bad %v, prefix %d, whole %v, %d events",
			what, e, got.Stamps, got.Bad, got.Prefix, got.Whole, len(got.Events), want.Stamps, want.Bad, want.Prefix, want.Whole, len(want.Events))
	}
}

// mends holds what Mend answers against what it must, and against the other calls.
func mends(t *testing.T, what string, b []byte, want []byte, fault api.Errno) {
	t.Helper()
	got, e := salvage.Mend(b)
	if e != fault || !bytes.Equal(got, want) {
		t.Fatalf("P13.3: %s: Mend = %d bytes, %d, want %d bytes, %d", what, len(got), e, len(want), fault)
	}
	if e != api.OK {
		return
	}
	saved, _ := salvage.Save(b)
	trace, e := file.Load(got)
	if e != api.OK || !sameTrace(trace, saved.Events[:saved.Prefix]) {
		t.Fatalf("P13.5: %s: what Mend answers is read as %d events, %d, want %d", what, len(trace), e, saved.Prefix)
	}
	if saved.Whole && !bytes.Equal(got, b) {
		t.Fatalf("P13.5: %s: Mend of a file that is read is another one", what)
	}
	if again, e := salvage.Mend(got); e != api.OK || !bytes.Equal(again, got) {
		t.Fatalf("P13.5: %s: Mend of what Mend answered is another one: %d", what, e)
	}
}

// holds holds all calls against the chapter's words.
func holds(t *testing.T, what string, b []byte) api.Rescue {
	t.Helper()
	spots, between := plainScan(b)
	scans(t, what, b, spots, between)
	saved := plainSave(b)
	saves(t, what, b, saved)
	mended, fault := plainMend(b)
	mends(t, what, b, mended, fault)
	return saved
}
