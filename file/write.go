package file

import (
	"hindsight/api"
	"hindsight/crc"
	"hindsight/frame"
	"hindsight/merge"
	"hindsight/stacks"
	"hindsight/stream"
	"hindsight/strtab"
)

// written is the file of a trace within bounds, for a limit that may be.
func written(t []api.Event, limit int) []byte {
	table := strtab.New()
	forest := stacks.New(table)
	rows := sure(merge.Split(t, interned(forest, t)))
	head := api.Head{Limit: limit, Events: len(t), Streams: len(rows), Strings: table.Len(), Nodes: forest.Len()}

	var fs frames
	fs.put(api.FrameHead, 0, sure(frame.EncodeHead(head)))
	fs.put(api.FrameStrings, 0, sure(table.Encode(limit))...)
	fs.put(api.FrameStacks, 0, sure(forest.Encode(limit))...)
	for _, row := range rows {
		fs.put(api.FrameEvents, row.G, sure(stream.Encode(row.Recs, limit))...)
	}
	fs.put(api.FrameFoot, 0, sure(frame.EncodeFoot(fs.foot())))
	return sure(frame.Join(fs))
}

// interned puts the stacks of all events into a forest: their numbers.
func interned(forest *stacks.Forest, t []api.Event) []int {
	ids := make([]int, len(t))
	for k, e := range t {
		ids[k] = sure(forest.Intern(e.Stack))
	}
	return ids
}

// frames are those of a file, from the first on.
type frames []api.Frame

// put puts a frame for each body behind the others.
func (fs *frames) put(kind, stream int, bodies ...[]byte) {
	for _, body := range bodies {
		*fs = append(*fs, api.Frame{Kind: kind, Stream: stream, Ord: len(*fs), Body: body})
	}
}

// foot is what a foot behind just these frames tells.
func (fs frames) foot() api.Foot {
	var sum uint32
	for _, f := range fs {
		sum = crc.Update(sum, f.Body)
	}
	return api.Foot{Frames: len(fs), Sum: sum}
}
