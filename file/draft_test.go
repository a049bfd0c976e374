package file_test

import (
	"math/rand"
	"slices"

	"hindsight/api"
	"hindsight/chunk"
	"hindsight/frame"
	"hindsight/samples"
	"hindsight/stream"
	"hindsight/wire"
)

// draft is what a file holds, ahead of its being written: it may be changed into what no trace has, and
// all counts and sums are put right behind that.
type draft struct {
	limit int
	texts []string
	nodes []node // the node with the number n stands at the place n - 1
	rows  []api.Row
}

type node struct{ parent, frame int }

// drafted is the draft of a trace, in the words of chapters 4, 5 and 10.
func drafted(t []api.Event, limit int) *draft {
	d := &draft{limit: limit}
	for stamp, e := range t {
		k := slices.IndexFunc(d.rows, func(r api.Row) bool { return r.G >= e.G })
		if k < 0 {
			k = len(d.rows)
		}
		if k == len(d.rows) || d.rows[k].G != e.G {
			d.rows = slices.Insert(d.rows, k, api.Row{G: e.G})
		}
		d.rows[k].Recs = append(d.rows[k].Recs, api.Rec{Stamp: stamp, Kind: e.Kind, Obj: e.Obj, Arg: e.Arg, Stack: d.stack(e.Stack)})
	}
	return d
}

// stack is the number of a stack; what is not there comes behind what is.
func (d *draft) stack(frames []string) int {
	id := 0
	for _, text := range slices.Backward(frames) {
		if !slices.Contains(d.texts, text) {
			d.texts = append(d.texts, text)
		}
		n := node{id, slices.Index(d.texts, text)}
		if !slices.Contains(d.nodes, n) {
			d.nodes = append(d.nodes, n)
		}
		id = slices.Index(d.nodes, n) + 1
	}
	return id
}

// each goes through all records, which may be changed.
func (d *draft) each(do func(g int, r *api.Rec)) {
	for _, row := range d.rows {
		for k := range row.Recs {
			do(row.G, &row.Recs[k])
		}
	}
}

// frames are those of the file, with an empty body for the foot.
func (d *draft) frames() []api.Frame {
	h := api.Head{Limit: d.limit, Streams: len(d.rows), Strings: len(d.texts), Nodes: len(d.nodes)}
	d.each(func(int, *api.Rec) { h.Events++ })
	head, _ := frame.EncodeHead(h)
	fs := []api.Frame{{Kind: 1, Body: head}}
	for _, body := range chunk.Write(0, len(d.texts), d.limit, func(id int) []byte {
		return append(wire.Uvarint(uint64(len(d.texts[id]))), d.texts[id]...)
	}) {
		fs = append(fs, api.Frame{Kind: 2, Body: body})
	}
	for _, body := range chunk.Write(1, len(d.nodes)+1, d.limit, func(id int) []byte {
		n := d.nodes[id-1]
		return append(wire.Uvarint(uint64(id-1-n.parent)), wire.Uvarint(uint64(n.frame))...)
	}) {
		fs = append(fs, api.Frame{Kind: 3, Body: body})
	}
	for _, row := range d.rows {
		bodies, e := stream.Encode(row.Recs, d.limit)
		if e != api.OK {
			panic("the test's own records can't be written")
		}
		for _, body := range bodies {
			fs = append(fs, api.Frame{Kind: 4, Stream: row.G, Body: body})
		}
	}
	return append(fs, api.Frame{Kind: 5})
}

// rich is a trace whose file, for the limit 64, has several bodies of each sort: of strings, of which some
// are longer than the limit, of nodes, and of the records of each of four goroutines.
func rich() []api.Event {
	return samples.Events(rand.New(rand.NewSource(111)).Intn, 90, 4)
}
