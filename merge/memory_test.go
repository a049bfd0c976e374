package merge_test

import (
	"slices"
	"testing"

	"hindsight/api"
	"hindsight/event"
	"hindsight/merge"
	"hindsight/samples"
)

// roomy are rows with spare room behind the list and behind each row's records, and all of that room.
func roomy(rows []api.Row) (list, whole []api.Row) {
	for _, r := range rows {
		w := slices.Concat(r.Recs, []api.Rec{rec(0, 7, 7), rec(-1, 8, 8), rec(1, 9, 9)})
		list, whole = append(list, api.Row{G: r.G, Recs: w[:len(r.Recs)]}), append(whole, api.Row{G: r.G, Recs: w})
	}
	list = append(list, row(-5), row(0, rec(4, 4, 4)))
	return list[:len(rows)], whole
}

// someTrace has events of four goroutines, with stacks.
func someTrace() ([]api.Event, []int) { return trace(2, 0, 0, 9, 2, 2, 0, 1, 9, 2, 0) }

// manyRows are rows of all sorts: good ones, and such that are refused at each step.
func manyRows() [][]api.Row {
	tr, ids := someTrace()
	good, _ := plainSplit(tr, ids)
	return [][]api.Row{nil, good, good[:1], good[1:], {good[1], good[0]}, append(cloneRows(good), row(10, rec(3, 1, 1))), append(cloneRows(good), row(11, rec(-1, 1, 1))), append(cloneRows(good), row(11, rec(1, 1, 1), rec(1, 1, 1))), {row(0)}}
}

func TestSplitLeaves(t *testing.T) {
	made := func() ([]api.Event, []int) {
		tr, ids := someTrace()
		for k := range tr {
			tr[k].Stack = append(tr[k].Stack, "behind", "it")[:len(tr[k].Stack)]
		}
		return append(tr, ev(-1, 5)), append(ids, 77)
	}
	tr, ids := made()
	last := len(tr) - 1
	for _, n := range []int{0, 3, last, last + 1} {
		merge.Split(tr[:n], ids[:n])
		merge.Split(tr[:n], ids)
	}
	want, wantIds := made()
	if !sameTrace(tr, want) || !slices.Equal(ids, wantIds) {
		t.Errorf("P10.7: Split changed what it was given, or the room behind it: %v, %v", tr, ids)
	}
	for k := range tr[:last] {
		if n := len(tr[k].Stack); !slices.Equal(tr[k].Stack[:n+2], append(slices.Clone(want[k].Stack), "behind", "it")) {
			t.Errorf("P10.7: the room behind the stack %d is another one", k)
		}
	}
}

func TestMergeLeaves(t *testing.T) {
	for _, rows := range manyRows() {
		list, whole := roomy(rows)
		_, want := roomy(rows)
		merge.Merge(list)
		if m, e := merge.New(list); e == api.OK {
			for e == api.OK {
				_, _, e = m.Next()
			}
		}
		if !sameRows(whole, want) {
			t.Errorf("P10.7: records of %v were changed, or the room behind them: %v", rows, whole)
		}
		if all := list[:len(rows)+2]; !sameRows(all, append(slices.Clone(rows), row(-5), row(0, rec(4, 4, 4)))) {
			t.Errorf("P10.7: the rows of %v were changed, or the room behind them: %v", rows, all)
		}
	}
}

// spoilRows writes over all memory of rows.
func spoilRows(rows []api.Row) {
	for _, r := range rows {
		samples.Spoil(r.Recs, rec(99, 99, 99))
	}
	samples.Spoil(rows, row(99))
}

// TestNothingKept: what was handed in changes behind the call, and the answers stand.
func TestNothingKept(t *testing.T) {
	tr, ids := someTrace()
	want, _ := plainSplit(tr, ids)
	rows, _ := merge.Split(tr, ids)
	samples.Spoil(tr, ev(99, 99))
	samples.Spoil(ids, 99)
	if !sameRows(rows, want) {
		t.Errorf("P10.7: Split kept what it was given: %v", rows)
	}
	for _, rows := range manyRows() {
		wanted, wantIds, wantE := plainMerge(rows)
		list, whole := roomy(rows)
		got, numbers, e := merge.Merge(list)
		spoilRows(whole)
		spoilRows(list)
		if e != wantE || !sameTrace(got, wanted) || !slices.Equal(numbers, wantIds) {
			t.Errorf("P10.7: Merge kept %v: %v, %v, %d", rows, got, numbers, e)
		}
	}
}

// TestMergerKeepsNothing: the rows change while a merger is under way, at each of its stamps.
func TestMergerKeepsNothing(t *testing.T) {
	for _, rows := range manyRows() {
		if plainFault(rows) != api.OK {
			continue
		}
		for at := range 12 {
			list, whole := roomy(rows)
			m, _ := merge.New(list)
			plain := plainNew(rows)
			for k := range 14 {
				if k == at {
					spoilRows(whole)
					spoilRows(list)
				}
				want, wantID, wantE := plain.next()
				if x, id, e := m.Next(); e != wantE || id != wantID || !event.Same(x, want) || m.Left() != len(plain.recs) {
					t.Fatalf("P10.7: %v changed at the stamp %d; at %d: %v, %d, %d, Left %d", rows, at, k, x, id, e, m.Left())
				}
			}
		}
	}
}

// TestSplitIsNew writes over one row after the other, with the room behind it.
func TestSplitIsNew(t *testing.T) {
	tr, ids := someTrace()
	want, _ := plainSplit(tr, ids)
	one, _ := merge.Split(tr, ids)
	other, _ := merge.Split(tr, ids)
	for k := range one {
		if !sameRows(one[k:], want[k:]) {
			t.Errorf("P10.7: a row from %d on shares memory with one ahead of it: %v", k, one)
		}
		samples.Spoil(one[k].Recs, rec(99, 99, 99))
	}
	samples.Spoil(one, row(99))
	if !sameRows(other, want) {
		t.Errorf("P10.7: two answers of Split share memory: %v", other)
	}
	again, numbers := someTrace()
	if !sameTrace(tr, again) || !slices.Equal(ids, numbers) {
		t.Errorf("P10.7: an answer of Split shares memory with what was handed in")
	}
}

func TestMergeIsNew(t *testing.T) {
	tr, ids := someTrace()
	rows, _ := plainSplit(tr, ids)
	want := cloneRows(rows)
	one, numbers, _ := merge.Merge(rows)
	other, otherNumbers, _ := merge.Merge(rows)
	samples.Spoil(one, api.Event{G: 99, Stack: []string{"x"}})
	samples.Spoil(numbers, 99)
	if !sameTrace(other, bare(tr)) || !slices.Equal(otherNumbers, ids) || !sameRows(rows, want) {
		t.Errorf("P10.7: an answer of Merge shares memory: %v, %v, %v", other, otherNumbers, rows)
	}
}

// TestMergersApart: mergers of the same rows, one behind the other and in turn, have nothing to do with each other.
func TestMergersApart(t *testing.T) {
	for _, rows := range manyRows() {
		if plainFault(rows) != api.OK {
			continue
		}
		var ms []*merge.Merger
		var plains []*plainMerger
		for range 3 {
			m, _ := merge.New(rows)
			ms, plains = append(ms, m), append(plains, plainNew(rows))
		}
		for k := range 60 {
			which := k * k % 7 % 3
			m, plain := ms[which], plains[which]
			want, wantID, wantE := plain.next()
			if x, id, e := m.Next(); e != wantE || id != wantID || !event.Same(x, want) || m.Left() != len(plain.recs) {
				t.Fatalf("P0.3: of %v: the merger %d: %v, %d, %d, Left %d", rows, which, x, id, e, m.Left())
			}
		}
	}
}
