package merge_test

import (
	"slices"
	"testing"

	"hindsight/api"
	"hindsight/merge"
)

// dealt are all stamps below a number, dealt out to rows one by one.
func dealt(stamps, rows int) []api.Row {
	list := make([]api.Row, rows)
	for s := range stamps {
		r := &list[s%rows]
		r.G = s % rows
		r.Recs = append(r.Recs, rec(s, s%22, s%9))
	}
	return list
}

// TestMostRecords: as many records as there may be, in one row, in a few, in as many as there may be; and
// with one of the last two taken out.
func TestMostRecords(t *testing.T) {
	for _, n := range []int{1, 3, maxG} {
		rows := dealt(maxEvents, n)
		tr, ids, e := merge.Merge(rows)
		if e != api.OK || len(tr) != maxEvents || len(ids) != maxEvents {
			t.Fatalf("P10.4: Merge of %d rows with %d records: %d events, %d numbers, %d", n, maxEvents, len(tr), len(ids), e)
		}
		for s, x := range tr {
			if x.G != s%n || x.Kind != s%22 || ids[s] != s%9 {
				t.Fatalf("P10.4: Merge of %d rows: the event %d is %v, %d", n, s, x, ids[s])
			}
		}
		stamp := maxEvents - 2
		if got, _, e := merge.Merge(without(rows, stamp%n, stamp/n)); e != api.ErrGap || len(got) != 0 {
			t.Errorf("P10.6: Merge of %d rows without the last record but one: %d events, %d", n, len(got), e)
		}
		stamp++
		if got, _, e := merge.Merge(without(rows, stamp%n, stamp/n)); e != api.OK || !sameTrace(got, tr[:stamp]) {
			t.Errorf("P10.6: Merge of %d rows without the last record: %d events, %d", n, len(got), e)
		}
	}
}

func TestMergerOfMost(t *testing.T) {
	m, e := merge.New(dealt(maxEvents, 2))
	if e != api.OK || m.Left() != maxEvents {
		t.Fatalf("P10.2: New: %d, Left %d", e, m.Left())
	}
	for s := range maxEvents {
		if x, id, e := m.Next(); e != api.OK || x.G != s%2 || x.Kind != s%22 || id != s%9 || m.Left() != maxEvents-s-1 {
			t.Fatalf("P10.3: at the stamp %d: Next() = %v, %d, %d, Left %d", s, x, id, e, m.Left())
		}
	}
	if _, _, e := m.Next(); e != api.ErrEmpty || m.Left() != 0 {
		t.Errorf("P10.3: behind the last record: %d, Left %d", e, m.Left())
	}
}

// TestTooManyRecords: that there are too many is told behind the last row, and ahead of gaps and doubles.
func TestTooManyRecords(t *testing.T) {
	whole := dealt(maxEvents, 1)[0].Recs
	half := whole[:maxEvents/2]
	for k, c := range []struct {
		rows []api.Row
		want api.Errno
	}{
		{[]api.Row{row(0, half...), row(1, whole[maxEvents/2:]...)}, api.OK},
		{[]api.Row{row(0, half...), row(1, half...)}, api.ErrDouble},
		{[]api.Row{row(0, half...), row(1, half...), row(2, rec(0, 1, 0))}, api.ErrLarge},
		{[]api.Row{row(0, whole...), row(1, rec(0, 1, 0))}, api.ErrLarge},
		{[]api.Row{row(0, rec(maxEvents-1, 1, 0)), row(1, whole...)}, api.ErrLarge},
		{[]api.Row{row(0, whole...), row(1, whole...), row(9, whole...)}, api.ErrLarge},
		{[]api.Row{row(0, whole[1:]...), row(1, rec(1, 1, 0))}, api.ErrGap},
		{[]api.Row{row(0, whole[1:]...), row(1, rec(1, 1, 0)), row(2, rec(1, 1, 0))}, api.ErrLarge},
		{[]api.Row{row(0, whole...), row(1, rec(0, 1, 0)), row(1, rec(1, 1, 0))}, api.ErrRow},
		{[]api.Row{row(0, whole...), row(1, rec(0, 1, 0)), row(2)}, api.ErrRow},
		{[]api.Row{row(0, whole...), row(1, rec(0, 1, 0)), row(maxG, rec(1, 1, 0))}, api.ErrRow},
		{[]api.Row{row(0, whole...), row(1, whole...), row(2, rec(maxEvents, 1, 0))}, api.ErrStamp},
		{[]api.Row{row(0, whole...), row(1, whole...), row(2, rec(1, 1, 0), rec(1, 1, 0))}, api.ErrOrder},
		{[]api.Row{row(0, slices.Concat(whole, []api.Rec{rec(maxEvents, 1, 0)})...)}, api.ErrStamp},
		{[]api.Row{row(0, slices.Concat(whole, []api.Rec{rec(maxEvents-1, 1, 0)})...)}, api.ErrOrder},
	} {
		tr, ids, e := merge.Merge(c.rows)
		if e != c.want || (e != api.OK) != (len(tr)+len(ids) == 0) {
			t.Errorf("P10.4: Merge %d: %d events, %d, want %d", k, len(tr), e, c.want)
		}
		made := c.want == api.OK || c.want == api.ErrGap || c.want == api.ErrDouble
		if m, e := merge.New(c.rows); made != (e == api.OK) || made != (m != nil) || !made && e != c.want {
			t.Errorf("P10.2: New %d: %v, %d, want %d", k, m != nil, e, c.want)
		}
	}
}
