package watch

import (
	"hindsight/api"
	"hindsight/growing"
)

// reader reads a recording whose bytes come in pieces.
type reader struct {
	recording growing.Recording
	rest      []byte // of a frame that is not whole yet
	broken    bool   // by bytes that no recording has there: nothing behind them is one's either
}

func newReader() reader {
	return reader{recording: growing.New()}
}

// take takes the next bytes, and hands on the events of each frame that they make whole.
func (r *reader) take(b []byte, keep func([]api.Event)) {
	if r.broken {
		return
	}
	r.rest = append(r.rest, b...)
	taken, more := r.recording.Follow(r.rest, keep)
	if !more {
		*r = reader{broken: true}
	} else if taken > 0 {
		// Into new memory (slices.Clone of nothing is none): else the frames that were read would be kept.
		r.rest = append([]byte(nil), r.rest[taken:]...)
	}
}

// whole tells whether the frames that were read are all that came.
func (r *reader) whole() bool {
	return !r.broken && len(r.rest) == 0
}
