package salvage_test

import (
	"bytes"
	"slices"
	"strconv"
	"strings"
	"testing"

	"hindsight/api"
	"hindsight/samples"
	"hindsight/stream"
	"hindsight/wire"
)

// texts is a frame of strings with the numbers from first on.
func texts(first uint64, list ...string) api.Frame {
	body := wire.Uvarint(first)
	for _, s := range list {
		body = append(append(body, wire.Uvarint(uint64(len(s)))...), s...)
	}
	return api.Frame{Kind: 2, Body: body}
}

// nodes is a frame of nodes with the numbers from first on, each as it is written: how far its parent lies
// back, and its string.
func nodes(first uint64, list ...uint64) api.Frame {
	body := wire.Uvarint(first)
	for _, x := range list {
		body = append(body, wire.Uvarint(x)...)
	}
	return api.Frame{Kind: 3, Body: body}
}

// events is a frame of records.
func events(g int, recs ...api.Rec) api.Frame {
	bodies, e := stream.Encode(recs, api.MaxLimit)
	if e != api.OK || len(bodies) != 1 {
		panic("the test's own records can't be written")
	}
	return api.Frame{Kind: 4, Stream: g, Body: bodies[0]}
}

// marked is the record of a mark.
func marked(stamp, stack int) api.Rec { return api.Rec{Stamp: stamp, Kind: api.Mark, Stack: stack} }

func raw(kind int, body ...byte) api.Frame { return api.Frame{Kind: kind, Body: body} }

func streamed(g int, f api.Frame) api.Frame {
	f.Stream = g
	return f
}

// tells holds what Save answers of frames, none of which is damaged, against the stacks of the events, which
// are marks, by their stamps; "-" stands for an event that is not answered.
func tells(t *testing.T, what string, fs []api.Frame, stacks ...string) {
	t.Helper()
	b := samples.Joined(fs)
	want := api.Rescue{}
	for stamp, s := range stacks {
		if s == "-" {
			continue
		}
		if stamp == want.Prefix {
			want.Prefix++
		}
		want.Stamps = append(want.Stamps, stamp)
		want.Events = append(want.Events, api.Event{Kind: api.Mark, Stack: strings.Fields(s)})
	}
	saves(t, what, b, want)
	if again := plainSave(b); !sameRescue(want, again) {
		t.Fatalf("%s: the test's own two ways differ: %v, %v", what, want, again)
	}
}

// one is a node of the string 0 under no other, and a mark with it.
func one() []api.Frame { return []api.Frame{nodes(1, 0, 0), events(0, marked(0, 1))} }

// TestTexts: the one string that counts is told in the frames that each case has.
func TestTexts(t *testing.T) {
	with := func(fs ...api.Frame) []api.Frame { return append(fs, one()...) }
	tells(t, "a string", with(texts(0, "a")), "a")
	tells(t, "no string", with(), "-")
	tells(t, "another string", with(texts(1, "a")), "-")
	tells(t, "a string twice", with(texts(0, "a"), texts(0, "b")), "a")
	tells(t, "a string twice, and others", with(texts(0, "a", "c"), texts(0, "b", "d", "e")), "a")
	tells(t, "a string that another number has, too", with(texts(0, "a", "a", "a")), "a")
	tells(t, "a string of another stream", with(streamed(1, texts(0, "a"))), "-")
	tells(t, "a string of another stream ahead", with(streamed(1, texts(0, "b")), texts(0, "a")), "a")
	tells(t, "a string of another kind ahead", with(api.Frame{Kind: 6, Body: texts(0, "b").Body}, texts(0, "a")), "a")
	tells(t, "a string at the end", append(one(), texts(0, "a")), "a")
	tells(t, "another ord", append(one(), api.Frame{Kind: 2, Ord: 77, Body: texts(0, "a").Body}), "a")
	for _, body := range [][]byte{nil, {0}, {0, 1}, {0, 2, 'b'}, {0, 1, 'b', 1}, {0, 1, 'b', 5, 'c'}, {0, 1, 'b', 128, 0}, {128, 0, 1, 'b'}, {128}, {0, 128}} {
		tells(t, "a body that can't be read", with(raw(2, body...)), "-")
		tells(t, "a body that can't be read, ahead of one that can", with(raw(2, body...), texts(0, "a")), "a")
	}
	// None of the strings of a body that can't be read is told, but those of the next one.
	tells(t, "half a body", with(raw(2, append(texts(0, "b").Body, 9, 'x')...), texts(0, "a")), "a")
}

// TestTextNumbers: the greatest numbers and lengths of strings.
func TestTextNumbers(t *testing.T) {
	last := func(fs ...api.Frame) []api.Frame {
		return append(fs, nodes(1, 0, maxStrings-1), events(0, marked(0, 1)))
	}
	tells(t, "the last string", last(texts(maxStrings-1, "a")), "a")
	tells(t, "the last two strings", last(texts(maxStrings-2, "b", "a")), "a")
	tells(t, "strings beyond the last", last(texts(maxStrings-1, "b", "c"), texts(maxStrings-1, "a")), "a")
	for _, first := range []uint64{maxStrings, maxStrings + 1, 1 << 32, 1<<32 + maxStrings - 1, 1 << 63, 1<<64 - 1} {
		tells(t, "a number beyond", append([]api.Frame{texts(first, "b"), nodes(1, 0, first), texts(first, "c", "d")}, events(0, marked(0, 1))), "-")
		tells(t, "a number beyond, over one that may be", append([]api.Frame{texts(first, "b", "b"), texts(0, "a")}, one()...), "a")
	}
	long := strings.Repeat("x", maxSite)
	tells(t, "the longest string", append([]api.Frame{texts(0, long)}, one()...), long)
	tells(t, "too long a string", append([]api.Frame{texts(0, long+"x"), texts(0, "a")}, one()...), "a")
	tells(t, "too long a string behind another", append([]api.Frame{texts(0, "b", long+"x"), texts(0, "a")}, one()...), "a")
	for _, size := range []uint64{1 << 31, 1 << 32, 1 << 63, 1<<64 - 1} {
		body := append([]byte{0, 1, 'b'}, wire.Uvarint(size)...)
		tells(t, "a length beyond all", append([]api.Frame{raw(2, body...), texts(0, "a")}, one()...), "a")
	}
	// All numbers in one body, and one more.
	all := samples.Numbered(maxStrings)
	tells(t, "all strings", last(texts(0, all...)), all[maxStrings-1])
	tells(t, "more than all strings", last(texts(0, append(all, "x")...), texts(maxStrings-1, "a")), "a")
}

// TestNodes: the strings 0 and 1 are "a" and "b"; the mark has the stack 1, or what is said.
func TestNodes(t *testing.T) {
	with := func(fs ...api.Frame) []api.Frame {
		return append(append([]api.Frame{texts(0, "a", "b")}, fs...), events(0, marked(0, 1), marked(1, 2), marked(2, 3), marked(3, 0)))
	}
	tells(t, "three nodes", with(nodes(1, 0, 0, 0, 1, 0, 0)), "a", "b a", "a b a", "")
	tells(t, "three under one and none", with(nodes(1, 0, 1, 1, 0, 1, 1)), "b", "a", "b b", "")
	tells(t, "three frames of them, the last first", with(nodes(3, 1, 0), nodes(2, 0, 1), nodes(1, 0, 0)), "a", "b a", "a a", "")
	tells(t, "a node twice", with(nodes(1, 0, 0), nodes(1, 0, 1)), "a", "-", "-", "")
	tells(t, "a node twice, the first without a string", with(nodes(1, 0, 7), nodes(1, 0, 1)), "-", "-", "-", "")
	tells(t, "nodes alike", with(nodes(1, 0, 0, 1, 0, 2, 0)), "a", "a", "a", "")
	tells(t, "a parent is not told", with(nodes(2, 0, 0, 2, 1)), "-", "-", "b", "")
	tells(t, "a parent's string is not told", with(nodes(1, 0, 9, 0, 1, 0, 1)), "-", "-", "-", "")
	tells(t, "a string is not told", with(nodes(1, 0, 0, 0, 9, 1, 1)), "a", "-", "b a", "")
	tells(t, "nodes of another stream", with(streamed(1, nodes(1, 0, 0))), "-", "-", "-", "")
	tells(t, "nodes of another stream ahead", with(streamed(65535, nodes(1, 0, 0)), nodes(1, 0, 1)), "b", "-", "-", "")
	tells(t, "nodes from 0 on", with(nodes(0, 0, 0, 0, 0), nodes(1, 0, 1)), "b", "-", "-", "")
	tells(t, "a parent below 0", with(nodes(1, 1, 0), nodes(1, 0, 1)), "b", "-", "-", "")
	tells(t, "a parent below 0, behind another", with(nodes(1, 0, 0, 2, 0), nodes(1, 0, 1)), "b", "-", "-", "")
	tells(t, "a parent of 0", with(nodes(3, 2, 1)), "-", "-", "b", "")
	for _, far := range []uint64{3, 1 << 31, 1 << 32, 1<<32 + 1, 1 << 63, 1<<64 - 1, 1<<64 - 2} {
		tells(t, "a parent far below 0", with(nodes(3, far, 0), nodes(3, 2, 1)), "-", "-", "b", "")
	}
	for _, number := range []uint64{2, maxStrings - 1, maxStrings, maxStrings + 1, 1 << 32, 1<<63 + 1, 1<<64 - 1} {
		fs := []api.Frame{nodes(1, 0, number, 1, 0)}
		if number > maxStrings-1 {
			fs = append(fs, texts(maxStrings-1, "z")) // the one with the greatest number is not taken for it
		}
		tells(t, "a string that is not there", with(fs...), "-", "a", "-", "")
	}
	for _, body := range [][]byte{nil, {1}, {1, 0}, {1, 0, 0, 0}, {1, 0, 0, 0, 128}, {1, 128, 0, 0}, {1, 0, 128, 0}, {129, 0, 0, 0}, {128}, {1, 0, 0, 128, 0, 0}} {
		tells(t, "a body that can't be read", with(raw(3, body...)), "-", "-", "-", "")
		tells(t, "a body that can't be read, ahead of one that can", with(raw(3, body...), nodes(1, 0, 1)), "b", "-", "-", "")
	}
}

// TestNodeNumbers: the greatest numbers of nodes.
func TestNodeNumbers(t *testing.T) {
	with := func(fs ...api.Frame) []api.Frame {
		return append(append([]api.Frame{texts(0, "a", "b")}, fs...), events(0, marked(0, maxNodes), marked(1, maxNodes-1)))
	}
	tells(t, "the last node", with(nodes(maxNodes, maxNodes-1, 0)), "a", "-")
	tells(t, "the last two nodes", with(nodes(maxNodes-1, maxNodes-2, 0, 0, 1)), "b a", "a")
	tells(t, "nodes beyond the last", with(nodes(maxNodes-1, maxNodes-2, 0, 0, 0, 0, 0), nodes(maxNodes, maxNodes-1, 1)), "b", "-")
	for _, first := range []uint64{maxNodes + 1, 1 << 32, 1<<32 + maxNodes, 1 << 63, 1<<64 - 1} {
		tells(t, "a number beyond", with(nodes(first, first-1, 0), nodes(first, 0, 0), nodes(maxNodes, maxNodes-1, 1)), "b", "-")
	}
}

// TestDepths: a chain of nodes, each under the one ahead of it.
func TestDepths(t *testing.T) {
	var chain []uint64
	var recs []api.Rec
	var want []string
	stack := ""
	for k := range 40 {
		chain = append(chain, 0, uint64(k%2))
		recs = append(recs, marked(k, k+1))
		stack = []string{"a ", "b "}[k%2] + stack
		if k < maxDepth {
			want = append(want, stack)
		} else {
			want = append(want, "-")
		}
	}
	tells(t, "a chain", []api.Frame{texts(0, "a", "b"), nodes(1, chain...), events(0, recs...)}, want...)
	// Beside the chain a node under its 15th, one under its 16th, and one under that.
	more := append(slices.Clone(chain), 40-15, 1, 41-16, 1, 0, 0)
	tells(t, "beside a chain", []api.Frame{texts(0, "a", "b"), nodes(1, more...), events(0, marked(0, 41), marked(1, 42), marked(2, 43))},
		"b "+want[14], "-", "-")
	// A chain of as many as there may be is not gone down to its end for nothing.
	deep := nodes(1, make([]uint64, 2*maxNodes)...)
	tells(t, "the longest chain", []api.Frame{texts(0, "a"), deep, events(0, marked(0, maxNodes), marked(1, 2))}, "-", "a a")
}

// TestRecords: which records hold a stamp.
func TestRecords(t *testing.T) {
	read := func(stamp int, size uint64) api.Rec {
		return api.Rec{Stamp: stamp, Kind: api.Read, Obj: 8, Arg: size}
	}
	event := func(g int, size uint64) api.Event { return api.Event{G: g, Kind: api.Read, Obj: 8, Arg: size} }
	for _, c := range []struct {
		name string
		fs   []api.Frame
		want api.Rescue
	}{
		{"a stamp twice in one stream", []api.Frame{events(3, read(0, 1)), events(3, read(0, 2))},
			api.Rescue{Events: []api.Event{event(3, 1)}, Stamps: []int{0}, Prefix: 1}},
		{"a stamp in two streams", []api.Frame{events(9, read(0, 1)), events(3, read(0, 2))},
			api.Rescue{Events: []api.Event{event(9, 1)}, Stamps: []int{0}, Prefix: 1}},
		{"first no good event", []api.Frame{events(9, read(0, 65)), events(3, read(0, 2)), events(2, read(0, 3))},
			api.Rescue{Events: []api.Event{event(3, 2)}, Stamps: []int{0}, Prefix: 1}},
		{"first one without a stack that is known", []api.Frame{events(9, marked(0, 1)), events(3, read(0, 2))},
			api.Rescue{Events: []api.Event{event(3, 2)}, Stamps: []int{0}, Prefix: 1}},
		{"no good event, among others", []api.Frame{events(9, read(0, 1), read(1, 0), read(2, 64), read(3, 65), read(4, 4))},
			api.Rescue{Events: []api.Event{event(9, 1), event(9, 64), event(9, 4)}, Stamps: []int{0, 2, 4}, Prefix: 1}},
		{"streams that take turns", []api.Frame{events(0, read(1, 1), read(4, 2)), events(65535, read(0, 3), read(2, 4), read(6, 5)), events(7, read(3, 6))},
			api.Rescue{Events: []api.Event{event(65535, 3), event(0, 1), event(65535, 4), event(7, 6), event(0, 2), event(65535, 5)}, Stamps: []int{0, 1, 2, 3, 4, 6}, Prefix: 5}},
		{"the last stamp", []api.Frame{events(1, read(maxEvents-1, 1))},
			api.Rescue{Events: []api.Event{event(1, 1)}, Stamps: []int{maxEvents - 1}}},
		{"chunks that can't be read", []api.Frame{raw(4), raw(4, 22), raw(4, 22, 0, 22), raw(4, 22, 0, 0, 0), raw(4, 22, 1, 23, 0), events(1, read(1, 1))},
			api.Rescue{Events: []api.Event{event(1, 1)}, Stamps: []int{1}}},
		{"records of other kinds of frames", []api.Frame{raw(5, 22, 0), raw(6, 22, 0), raw(255, 22, 0), raw(1, 22, 0)}, api.Rescue{}},
		{"chunks out of order", []api.Frame{events(1, read(5, 5)), events(1, read(2, 2)), events(1, read(1, 1), read(2, 9)), events(1, read(0, 8))},
			api.Rescue{Events: []api.Event{event(1, 8), event(1, 1), event(1, 2), event(1, 5)}, Stamps: []int{0, 1, 2, 5}, Prefix: 3}},
	} {
		b := samples.Joined(c.fs)
		saves(t, c.name, b, c.want)
		holds(t, c.name, b)
	}
}

// TestKinds: events of each kind, with arguments that they may have and such as they may not.
func TestKinds(t *testing.T) {
	for kind := 1; kind <= 22; kind++ {
		var recs []api.Rec
		for _, obj := range []uint64{0, 1, 1<<64 - 1, 1<<64 - 64} {
			for _, arg := range []uint64{0, 1, 2, 64, 65, 65535, 65536, 65537, 4294967294, 4294967295, 1<<64 - 1} {
				recs = append(recs, api.Rec{Stamp: len(recs), Kind: kind, Obj: obj, Arg: arg})
			}
		}
		r := holds(t, "a kind", samples.Joined([]api.Frame{raw(1, 1, 64, 0, 0, 0, 0), events(kind, recs...)}))
		if all := len(r.Events) == len(recs); len(r.Events) == 0 || all != (kind == api.Mark) {
			t.Errorf("of the kind %d %d records of %d are sure", kind, len(r.Events), len(recs))
		}
	}
}

// TestAllTexts: all short bodies of strings, ahead of which and behind which one can be read.
func TestAllTexts(t *testing.T) {
	rest := []api.Frame{nodes(1, 0, 0, 1, 1, 2, 2, 3, 3), events(0, marked(0, 1), marked(1, 2), marked(2, 3), marked(3, 4))}
	readable := 0
	for _, body := range samples.AllBodies(6, 0, 1, 2, 128) {
		f := raw(2, body...)
		if _, _, can := plainTexts(body); can {
			readable++
		}
		for _, fs := range [][]api.Frame{{f}, {f, texts(0, "a", "b", "c", "d")}, {texts(1, "y", "z"), f}} {
			b := samples.Joined(append(fs, rest...))
			saves(t, "the body "+spelt(body), b, plainSave(b))
		}
	}
	if readable < 100 {
		t.Errorf("only %d bodies can be read", readable)
	}
}

// TestAllNodes: all short bodies of nodes.
func TestAllNodes(t *testing.T) {
	rest := []api.Frame{texts(0, "a", "b", "c"), events(0, marked(0, 1), marked(1, 2), marked(2, 3), marked(3, 4))}
	readable := 0
	for _, body := range samples.AllBodies(6, 0, 1, 2, 128) {
		f := raw(3, body...)
		if _, _, can := plainNodes(body); can {
			readable++
		}
		for _, fs := range [][]api.Frame{{f}, {f, nodes(1, 0, 0, 0, 1, 0, 2, 0, 0)}, {nodes(2, 0, 2, 0, 1), f}} {
			b := samples.Joined(append(fs, rest...))
			saves(t, "the body "+spelt(body), b, plainSave(b))
		}
	}
	if readable < 100 {
		t.Errorf("only %d bodies can be read", readable)
	}
}

// TestAllChunks: all short bodies of events.
func TestAllChunks(t *testing.T) {
	readable := 0
	for _, body := range samples.AllBodies(6, 0, 1, 22, 150) {
		if _, e := stream.Chunk(body); e == api.OK {
			readable++
		}
		b := samples.Joined([]api.Frame{texts(0, "a"), nodes(1, 0, 0), raw(4, body...), events(5, marked(0, 0), marked(1, 1))})
		saves(t, "the body "+spelt(body), b, plainSave(b))
	}
	if readable < 20 {
		t.Errorf("only %d bodies can be read", readable)
	}
}

func spelt(body []byte) string {
	var out []string
	for _, c := range body {
		out = append(out, strconv.Itoa(int(c)))
	}
	return strings.Join(out, " ")
}

// TestOrders: the frames of A in every order, and every choice of them: what is told hangs not on the order.
func TestOrders(t *testing.T) {
	a := fileA(t)
	ends := []int{0, stringsAt, stacksAt, eventsAt, footAt, lengthOfA}
	for _, order := range samples.AllBodies(5, 0, 1, 2, 3, 4) {
		var b []byte
		for _, k := range order {
			b = append(b, a[ends[k]:ends[k+1]]...)
		}
		has := func(k byte) bool { return bytes.Contains(order, []byte{k}) }
		want := api.Rescue{Whole: slices.Equal(order, []byte{0, 1, 2, 3, 4})}
		switch {
		case has(3) && has(1) && has(2):
			want.Events, want.Stamps, want.Prefix = two(), []int{0, 1}, 2
		case has(3):
			want.Events, want.Stamps = two()[1:], []int{1}
		}
		saves(t, "the frames "+spelt(order)+" of A", b, want)
		mended, fault := plainMend(b)
		mends(t, "the frames "+spelt(order)+" of A", b, mended, fault)
	}
}
