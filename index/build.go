package index

import (
	"slices"

	"hindsight/api"
	"hindsight/file"
	"hindsight/frame"
	"hindsight/stacks"
	"hindsight/strtab"
	"hindsight/wire"
)

// built is the index of bytes that are a file: so nothing that is read of them here can be at fault.
func built(b []byte) *Index {
	head, _ := file.Peek(b)
	fs, spots := spread(b)
	countNumbered(spots, fs, api.FrameStrings, head.Strings)
	countNumbered(spots, fs, api.FrameStacks, head.Nodes+1)
	chunks := chunksOf(spots, fs)
	table, _ := strtab.Decode(bodies(fs, api.FrameStrings), head.Limit)
	forest, _ := stacks.Decode(table, bodies(fs, api.FrameStacks), head.Limit)
	return &Index{spots: spots, forest: forest, events: head.Events, lanes: lanesOf(chunks), times: newTimeline(chunks)}
}

// spread are the frames of a file, and where each lies.
func spread(b []byte) ([]api.Frame, []api.Spot) {
	var fs []api.Frame
	var spots []api.Spot
	for at := 0; at < len(b); {
		f, to, _ := frame.Decode(b, at)
		fs = append(fs, f)
		spots = append(spots, api.Spot{Kind: f.Kind, Stream: f.Stream, Ord: f.Ord, From: at, To: to, First: -1, Last: -1})
		at = to
	}
	return fs, spots
}

// countNumbered tells how many strings or nodes the frames of a kind have; end is the number behind the last
// one. A body begins with the number of its first one: so where the next body begins, it ends.
func countNumbered(spots []api.Spot, fs []api.Frame, kind, end int) {
	for k, f := range slices.Backward(fs) {
		if f.Kind != kind {
			continue
		}
		first, _, _ := wire.ReadUvarint(f.Body, 0)
		spots[k].Count = end - int(first)
		end = int(first)
	}
}

// chunksOf are the chunks of events, as they lie in the file; the records of each are counted.
func chunksOf(spots []api.Spot, fs []api.Frame) []*chunk {
	var chunks []*chunk
	ahead := 0
	for k, f := range fs {
		if f.Kind != api.FrameEvents {
			continue
		}
		if spots[k-1].Stream != f.Stream {
			ahead = 0
		}
		c := &chunk{spots[k], ahead, f.Body}
		c.count()
		spots[k] = c.Spot
		ahead += c.Count
		chunks = append(chunks, c)
	}
	return chunks
}

// count reads a chunk for how many records it has, and for the first and the last stamp.
func (c *chunk) count() {
	for r := range c.records() {
		if c.Count == 0 {
			c.First = r.Stamp
		}
		c.Last = r.Stamp
		c.Count++
	}
}

// bodies are those of the frames of a kind.
func bodies(fs []api.Frame, kind int) [][]byte {
	var list [][]byte
	for _, f := range fs {
		if f.Kind == kind {
			list = append(list, f.Body)
		}
	}
	return list
}
