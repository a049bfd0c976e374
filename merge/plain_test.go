package merge_test

import (
	"math"
	"slices"
	"testing"

	"hindsight/api"
	"hindsight/event"
	"hindsight/merge"
)

// The limits, as the chapters write them.
const (
	maxEvents = 1048576
	maxG      = 65536
)

func ev(g, kind int) api.Event { return api.Event{G: g, Kind: kind} }

func rec(stamp, kind, stack int) api.Rec { return api.Rec{Stamp: stamp, Kind: kind, Stack: stack} }

func row(g int, recs ...api.Rec) api.Row { return api.Row{G: g, Recs: recs} }

// stamped is a row whose records have these stamps, and are told apart by the other fields.
func stamped(g int, stamps ...int) api.Row {
	r := api.Row{G: g}
	for k, s := range stamps {
		r.Recs = append(r.Recs, api.Rec{Stamp: s, Kind: g + 1, Obj: uint64(s), Arg: uint64(k), Stack: 100*g + k})
	}
	return r
}

// trace is one whose events are of these goroutines, with stacks' numbers; no two of them tell the same.
func trace(gs ...int) ([]api.Event, []int) {
	t, ids := make([]api.Event, len(gs)), make([]int, len(gs))
	for k, g := range gs {
		t[k] = api.Event{G: g, Kind: 1 + k%22, Obj: uint64(7 * k), Arg: uint64(k % 5), Stack: []string{"f", "main"}[:k%3%2]}
		ids[k] = 3 * (k % 7)
	}
	return t, ids
}

// anyTrace is one whose events have whatever stands in the fields that are not asked for.
func anyTrace(pick func(below int) int, n, goroutines int) ([]api.Event, []int) {
	t, ids := make([]api.Event, n), make([]int, n)
	for k := range t {
		t[k] = api.Event{G: pick(goroutines), Kind: anyInt(pick), Obj: uint64(anyInt(pick)), Arg: uint64(anyInt(pick)), Stack: make([]string, pick(20))}
		ids[k] = anyInt(pick)
	}
	return t, ids
}

func anyInt(pick func(below int) int) int {
	some := []int{0, 1, 22, 23, -1, 1 << 18, maxEvents, math.MaxInt, math.MinInt}
	if k := pick(2 * len(some)); k < len(some) {
		return some[k]
	}
	return pick(1<<62) - 1<<61
}

func bare(t []api.Event) []api.Event {
	t = slices.Clone(t)
	for k := range t {
		t[k].Stack = nil
	}
	return t
}

func sameTrace(a, b []api.Event) bool { return slices.EqualFunc(a, b, event.Same) }

func sameRow(a, b api.Row) bool { return a.G == b.G && slices.Equal(a.Recs, b.Recs) }

func sameRows(a, b []api.Row) bool { return slices.EqualFunc(a, b, sameRow) }

func cloneRows(rows []api.Row) []api.Row {
	rows = slices.Clone(rows)
	for k := range rows {
		rows[k].Recs = slices.Clone(rows[k].Recs)
	}
	return rows
}

// plainSplit is P10.1, word by word.
func plainSplit(t []api.Event, ids []int) ([]api.Row, api.Errno) {
	if len(t) > maxEvents {
		return nil, api.ErrLarge
	}
	if len(t) != len(ids) {
		return nil, api.ErrArg
	}
	if slices.ContainsFunc(t, func(e api.Event) bool { return e.G < 0 || e.G > maxG-1 }) {
		return nil, api.ErrG
	}
	var gs []int
	for _, e := range t {
		gs = append(gs, e.G)
	}
	slices.Sort(gs)
	var rows []api.Row
	for _, g := range slices.Compact(gs) {
		r := api.Row{G: g}
		for place, e := range t {
			if e.G == g {
				r.Recs = append(r.Recs, api.Rec{Stamp: place, Kind: e.Kind, Obj: e.Obj, Arg: e.Arg, Stack: ids[place]})
			}
		}
		rows = append(rows, r)
	}
	return rows, api.OK
}

// plainFault is what P10.2 finds in rows.
func plainFault(rows []api.Row) api.Errno {
	all := 0
	for k, r := range rows {
		if r.G < 0 || r.G > maxG-1 || k > 0 && r.G <= rows[k-1].G || len(r.Recs) == 0 {
			return api.ErrRow
		}
		for n, x := range r.Recs {
			if x.Stamp < 0 || x.Stamp > maxEvents-1 {
				return api.ErrStamp
			}
			if n > 0 && x.Stamp <= r.Recs[n-1].Stamp {
				return api.ErrOrder
			}
		}
		all += len(r.Recs)
	}
	if all > maxEvents {
		return api.ErrLarge
	}
	return api.OK
}

// plainMerger is P10.3, word by word: all records that were not taken, each with its row's number.
type plainMerger struct {
	at   int
	recs []api.Rec
	gs   []int
}

func plainNew(rows []api.Row) *plainMerger {
	m := &plainMerger{}
	for _, r := range rows {
		for _, x := range r.Recs {
			m.recs, m.gs = append(m.recs, x), append(m.gs, r.G)
		}
	}
	return m
}

func (m *plainMerger) next() (api.Event, int, api.Errno) {
	least := -1
	for k, x := range m.recs {
		if least < 0 || x.Stamp < m.recs[least].Stamp {
			least = k // the first of several: they lie row by row
		}
	}
	switch {
	case least < 0:
		return api.Event{}, 0, api.ErrEmpty
	case m.recs[least].Stamp < m.at:
		return api.Event{}, 0, api.ErrDouble
	case m.recs[least].Stamp > m.at:
		return api.Event{}, 0, api.ErrGap
	}
	x, g := m.recs[least], m.gs[least]
	m.recs, m.gs = slices.Delete(m.recs, least, least+1), slices.Delete(m.gs, least, least+1)
	m.at++
	return api.Event{G: g, Kind: x.Kind, Obj: x.Obj, Arg: x.Arg}, x.Stack, api.OK
}

// plainMerge is P10.4, word by word.
func plainMerge(rows []api.Row) ([]api.Event, []int, api.Errno) {
	if e := plainFault(rows); e != api.OK {
		return nil, nil, e
	}
	var t []api.Event
	var ids []int
	m := plainNew(rows)
	for {
		x, id, e := m.next()
		if e == api.ErrEmpty {
			return t, ids, api.OK
		}
		if e != api.OK {
			return nil, nil, e
		}
		t, ids = append(t, x), append(ids, id)
	}
}

// holdsTrace asks Split, and Merge of what it answers.
func holdsTrace(t *testing.T, tr []api.Event, ids []int) api.Errno {
	t.Helper()
	rows, e := merge.Split(tr, ids)
	want, wantE := plainSplit(tr, ids)
	if e != wantE || !sameRows(rows, want) {
		t.Fatalf("P10.1: Split(%.300v, %.300v) = %.300v, %d, want %.300v, %d", tr, ids, rows, e, want, wantE)
	}
	if e == api.OK {
		bothWays(t, tr, ids, rows)
	}
	return e
}

// bothWays asks whether the rows of a trace become the trace.
func bothWays(t *testing.T, tr []api.Event, ids []int, rows []api.Row) {
	t.Helper()
	back, numbers, e := merge.Merge(rows)
	if e != api.OK || !sameTrace(back, bare(tr)) || !slices.Equal(numbers, ids) {
		t.Fatalf("P10.5: Merge(Split(%.300v, %.300v)) = %.300v, %.300v, %d", tr, ids, back, numbers, e)
	}
}

// holdsRows asks New, Next and Left, up to the end and beyond it, and Merge.
func holdsRows(t *testing.T, rows []api.Row) api.Errno {
	t.Helper()
	m, e := merge.New(rows)
	if want := plainFault(rows); e != want || (m != nil) != (e == api.OK) {
		t.Fatalf("P10.2: New(%.300v) = %v, %d, want %d", rows, m, e, want)
	}
	if e == api.OK {
		holdsMerger(t, rows, m)
	}
	tr, ids, e := merge.Merge(rows)
	want, wantIds, wantE := plainMerge(rows)
	if e != wantE || !sameTrace(tr, want) || !slices.Equal(ids, wantIds) {
		t.Fatalf("P10.4: Merge(%.300v) = %.300v, %.300v, %d, want %.300v, %.300v, %d", rows, tr, ids, e, want, wantIds, wantE)
	}
	if e != api.OK {
		return e
	}
	if again, e := merge.Split(tr, ids); e != api.OK || !sameRows(again, rows) {
		t.Fatalf("P10.5: Merge(%.300v) is OK; Split of that = %.300v, %d", rows, again, e)
	}
	return api.OK
}

func holdsMerger(t *testing.T, rows []api.Row, m *merge.Merger) {
	t.Helper()
	plain := plainNew(rows)
	for behind := 0; behind < 3; {
		if m.Left() != len(plain.recs) {
			t.Fatalf("P10.3: of %.300v: Left() = %d at the stamp %d, want %d", rows, m.Left(), plain.at, len(plain.recs))
		}
		want, wantID, wantE := plain.next()
		x, id, e := m.Next()
		if e != wantE || id != wantID || !event.Same(x, want) {
			t.Fatalf("P10.3: of %.300v: Next() = %v, %d, %d, want %v, %d, %d", rows, x, id, e, want, wantID, wantE)
		}
		if e != api.OK {
			behind++
		}
	}
	if m.Left() != len(plain.recs) {
		t.Fatalf("P10.3: of %.300v: behind the end Left() = %d, want %d", rows, m.Left(), len(plain.recs))
	}
}
