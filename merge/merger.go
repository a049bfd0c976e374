package merge

import (
	"iter"
	"slices"

	"hindsight/api"
	"hindsight/heap"
)

// Merger puts rows together one event at a time.
type Merger struct {
	rows  []api.Row        // what is left of them
	heads *heap.Heap[head] // of those that have records left
	at    int              // the stamp that the next record must have
	left  int
}

// head is the stamp of a row's first record that is left, and the row's place among the rows.
type head struct{ stamp, row int }

// Before orders heads by their stamps. Where these are the same the row decides: the heap itself would put
// that first which came onto it first, and a row comes onto it anew with each record.
func (h head) Before(o head) bool {
	if h.stamp != o.stamp {
		return h.stamp < o.stamp
	}
	return h.row < o.row
}

// New is a merger at the begin.
func New(rows []api.Row) (*Merger, api.Errno) {
	if fault := rowsFault(rows); fault != api.OK {
		return nil, fault
	}
	m := &Merger{rows: slices.Clone(rows), heads: heap.New[head]()}
	for k, row := range rows {
		m.rows[k].Recs = slices.Clone(row.Recs)
		m.heads.Push(head{row.Recs[0].Stamp, k})
		m.left += len(row.Recs)
	}
	return m, api.OK
}

// rowsFault tells why rows can't be put together. How many records they have is looked at last: a fault of
// any row goes ahead of there being too many.
func rowsFault(rows []api.Row) api.Errno {
	ahead, count := -1, 0
	for _, row := range rows {
		if row.G <= ahead || row.G >= api.MaxG || len(row.Recs) == 0 {
			return api.ErrRow
		}
		if fault := stampsFault(row.Recs); fault != api.OK {
			return fault
		}
		ahead, count = row.G, count+len(row.Recs)
	}
	if count > api.MaxEvents {
		return api.ErrLarge
	}
	return api.OK
}

// stampsFault tells why a row can't have such stamps.
func stampsFault(recs []api.Rec) api.Errno {
	ahead := -1
	for _, r := range recs {
		if r.Stamp < 0 || r.Stamp >= api.MaxEvents {
			return api.ErrStamp
		}
		if r.Stamp <= ahead {
			return api.ErrOrder
		}
		ahead = r.Stamp
	}
	return api.OK
}

// Next answers the next event and its stack's number; ErrEmpty behind the last one.
func (m *Merger) Next() (api.Event, int, api.Errno) {
	if m == nil {
		return api.Event{}, 0, api.ErrNil
	}
	for g, r := range m.inTurn() {
		return event(g, r), r.Stack, api.OK
	}
	return api.Event{}, 0, m.fault()
}

// Left tells how many events are left.
func (m *Merger) Left() int {
	if m == nil {
		return 0
	}
	return m.left
}

// inTurn goes through the records by their stamps, up to the first whose stamp is not the next one. A
// record is taken ahead of being handed on: so one who stops has taken what he was handed, and no more.
func (m *Merger) inTurn() iter.Seq2[int, api.Rec] {
	heads := m.heads
	return func(yield func(g int, r api.Rec) bool) {
		for m.fault() == api.OK {
			first, _ := heads.Pop()
			row := &m.rows[first.row]
			r := row.Recs[0]
			row.Recs = row.Recs[1:]
			if len(row.Recs) > 0 {
				heads.Push(head{row.Recs[0].Stamp, first.row})
			}
			m.at++
			m.left--
			if !yield(row.G, r) {
				return
			}
		}
	}
}

// fault tells why no record can be taken: of a heap without heads the heap itself does. It stays so once it
// is so, for nothing but taking changes it.
func (m *Merger) fault() api.Errno {
	first, fault := m.heads.Peek()
	switch {
	case fault != api.OK:
		return fault
	case first.stamp < m.at:
		return api.ErrDouble
	case first.stamp > m.at:
		return api.ErrGap
	}
	return api.OK
}
