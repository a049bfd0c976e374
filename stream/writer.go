package stream

import (
	"hindsight/api"
	"hindsight/chunk"
	"hindsight/delta"
)

// Writer is a stream that grows.
type Writer struct {
	limit int
	body  []byte    // the one under way
	held  int       // its records
	state api.State // behind its last record
	least int       // the stamp that the next record must have at least: unlike the state's, it stands behind a Flush too
}

// New is a stream without records.
func New(limit int) (*Writer, api.Errno) {
	if !chunk.LimitMayBe(limit) {
		return nil, api.ErrArg
	}
	return &Writer{limit: limit}, api.OK
}

// Put takes a record: the body that became full ahead of it, if one did.
func (w *Writer) Put(r api.Rec) (full []byte, fault api.Errno) {
	if w == nil {
		return nil, api.ErrNil
	}
	defer func() {
		if fault == api.OK {
			w.held++
			w.least = r.Stamp + 1
		}
	}()
	alone, behind, fault := delta.Put(api.State{}, r)
	if fault != api.OK {
		return nil, fault
	}
	if r.Stamp < w.least {
		return nil, api.ErrOrder
	}
	told, _, fault := delta.Put(w.state, r)
	if fault != api.OK {
		return nil, fault
	}
	if len(w.body)+len(told) > w.limit {
		full, told = w.Flush(), alone
	}
	// The state behind a record hangs on the record alone, not on what it was told against.
	w.body, w.state = append(w.body, told...), behind
	return full, api.OK
}

// Flush answers the body that is under way, and begins a new one.
func (w *Writer) Flush() []byte {
	if w == nil {
		return nil
	}
	n := len(w.body)
	body := w.body[:n:n]
	// The next body gets memory of its own: this one is the caller's from here on.
	w.body, w.held, w.state = nil, 0, api.State{}
	return body
}

// Held tells how many records the body under way has.
func (w *Writer) Held() int {
	if w == nil {
		return 0
	}
	return w.held
}
