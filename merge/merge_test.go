package merge_test

import (
	"math"
	"math/rand"
	"slices"
	"testing"

	"hindsight/api"
	"hindsight/event"
	"hindsight/merge"
	"hindsight/samples"
)

func TestMergeExamples(t *testing.T) {
	for _, c := range []struct {
		rows []api.Row
		t    []api.Event
		ids  []int
		e    api.Errno
	}{
		{[]api.Row{row(0, rec(0, 1, 5), rec(2, 22, 5)), row(2, rec(1, 2, 6))}, []api.Event{ev(0, 1), ev(2, 2), ev(0, 22)}, []int{5, 6, 5}, api.OK},
		{nil, nil, nil, api.OK},
		{[]api.Row{}, nil, nil, api.OK},
		{[]api.Row{row(0, rec(0, 1, 0), rec(2, 1, 0))}, nil, nil, api.ErrGap},
		{[]api.Row{row(0, rec(1, 1, 0))}, nil, nil, api.ErrGap},
		{[]api.Row{row(0, rec(0, 1, 0)), row(1, rec(0, 2, 0))}, nil, nil, api.ErrDouble},
		{[]api.Row{row(0, rec(0, 1, 0), rec(0, 1, 0))}, nil, nil, api.ErrOrder},
		{[]api.Row{row(0, rec(-1, 1, 0))}, nil, nil, api.ErrStamp},
		{[]api.Row{row(0, rec(1048576, 1, 0))}, nil, nil, api.ErrStamp},
		{[]api.Row{row(0, rec(1048575, 1, 0))}, nil, nil, api.ErrGap},
		{[]api.Row{row(1, rec(0, 1, 0)), row(0, rec(1, 1, 0))}, nil, nil, api.ErrRow},
		{[]api.Row{row(1, rec(0, 1, 0)), row(1, rec(1, 1, 0))}, nil, nil, api.ErrRow},
		{[]api.Row{row(0)}, nil, nil, api.ErrRow},
		{[]api.Row{row(65536, rec(0, 1, 0))}, nil, nil, api.ErrRow},
		{[]api.Row{row(65535, rec(0, 1, 0))}, []api.Event{ev(65535, 1)}, []int{0}, api.OK},
		{[]api.Row{row(-1, rec(0, 1, 0))}, nil, nil, api.ErrRow},
		// More than one fault at once.
		{[]api.Row{row(-1, rec(-1, 1, 0))}, nil, nil, api.ErrRow},
		{[]api.Row{row(0, rec(5, 1, 0), rec(-1, 1, 0))}, nil, nil, api.ErrStamp},
		{[]api.Row{row(0, rec(5, 1, 0), rec(4, 1, 0), rec(-1, 1, 0))}, nil, nil, api.ErrOrder},
		{[]api.Row{row(0, rec(5, 1, 0), rec(5, 1, 0)), row(0)}, nil, nil, api.ErrOrder},
		{[]api.Row{row(0, rec(5, 1, 0)), row(0), row(1, rec(-1, 1, 0))}, nil, nil, api.ErrRow},
		{[]api.Row{row(0, rec(5, 1, 0)), row(1, rec(5, 1, 0)), row(2, rec(-1, 1, 0))}, nil, nil, api.ErrStamp},
		{[]api.Row{row(0, rec(0, 1, 0), rec(2, 1, 0)), row(1, rec(0, 1, 0))}, nil, nil, api.ErrDouble},
		{[]api.Row{row(0, rec(1, 1, 0)), row(1, rec(1, 1, 0))}, nil, nil, api.ErrGap},
		{[]api.Row{row(0, rec(0, 1, 0), rec(2, 1, 0)), row(1, rec(2, 1, 0))}, nil, nil, api.ErrGap},
	} {
		tr, ids, e := merge.Merge(c.rows)
		if e != c.e || !sameTrace(tr, c.t) || !slices.Equal(ids, c.ids) {
			t.Errorf("P10.4: Merge(%v) = %v, %v, %d, want %v, %v, %d", c.rows, tr, ids, e, c.t, c.ids, c.e)
		}
		holdsRows(t, c.rows)
	}
}

func TestMergerExamples(t *testing.T) {
	m, e := merge.New([]api.Row{row(0, rec(0, 1, 4), rec(3, 1, 4)), row(1, rec(1, 2, 4))})
	if e != api.OK || m.Left() != 3 {
		t.Fatalf("P10.2: New = %d, Left %d", e, m.Left())
	}
	for k, c := range []struct {
		x        api.Event
		id, left int
		e        api.Errno
	}{
		{ev(0, 1), 4, 2, api.OK},
		{ev(1, 2), 4, 1, api.OK},
		{api.Event{}, 0, 1, api.ErrGap},
		{api.Event{}, 0, 1, api.ErrGap},
	} {
		if x, id, e := m.Next(); e != c.e || id != c.id || !event.Same(x, c.x) || m.Left() != c.left {
			t.Errorf("P10.3: Next %d = %v, %d, %d, Left %d, want %v", k, x, id, e, m.Left(), c)
		}
	}
	for _, rows := range [][]api.Row{nil, {}} {
		m, e := merge.New(rows)
		if m == nil || e != api.OK {
			t.Fatalf("P10.2: New of no rows = %v, %d", m, e)
		}
		if x, id, e := m.Next(); e != api.ErrEmpty || id != 0 || !event.Same(x, api.Event{}) || m.Left() != 0 {
			t.Errorf("P10.3: of no rows: Next() = %v, %d, %d, Left %d", x, id, e, m.Left())
		}
	}
}

func TestNilMerger(t *testing.T) {
	made, _ := merge.New([]api.Row{row(0)})
	for _, m := range []*merge.Merger{nil, made} {
		for range 2 {
			if x, id, e := m.Next(); e != api.ErrNil || id != 0 || !event.Same(x, api.Event{}) {
				t.Errorf("P10.3: a nil merger: Next() = %v, %d, %d", x, id, e)
			}
			if m.Left() != 0 {
				t.Errorf("P10.7: a nil merger: Left() = %d", m.Left())
			}
		}
	}
}

// TestMergerOfNobody: a merger that New did not make does not panic; the chapter says no more of it.
func TestMergerOfNobody(t *testing.T) {
	m := new(merge.Merger)
	if _, _, e := m.Next(); e == api.OK || m.Left() != 0 {
		t.Errorf("P0.1: a zero merger: %d, Left %d", e, m.Left())
	}
}

// TestLeastRow: of several records with one stamp that of the least row is taken, though its row came
// anew to its turn when the others lay there already.
func TestLeastRow(t *testing.T) {
	for rows := 2; rows < 9; rows++ {
		for long := range rows {
			list := make([]api.Row, rows)
			for g := range list {
				list[g] = stamped(g, 3)
			}
			list[long] = stamped(long, 0, 1, 2, 3)
			m, _ := merge.New(list)
			for range 3 {
				m.Next()
			}
			if x, id, e := m.Next(); e != api.OK || x.G != 0 || id != list[0].Recs[len(list[0].Recs)-1].Stack || m.Left() != rows-1 {
				t.Errorf("P10.3: of %v: the 4. Next() = %v, %d, %d, Left %d", list, x, id, e, m.Left())
			}
			for range 3 {
				if x, _, e := m.Next(); e != api.ErrDouble || x.Kind != 0 || m.Left() != rows-1 {
					t.Errorf("P10.3: of %v: behind it Next() = %v, %d, Left %d", list, x, e, m.Left())
				}
			}
		}
	}
}

// rising are all rows of stamps below a number that rise, without the empty one.
func rising(below int) [][]int {
	var all [][]int
	for bits := 1; bits < 1<<below; bits++ {
		var stamps []int
		for s := range below {
			if bits>>s&1 == 1 {
				stamps = append(stamps, s)
			}
		}
		all = append(all, stamps)
	}
	return all
}

// TestRowsAll: all pairs of rows with the stamps 0 to 5 and all threes of rows with 0 to 3, as they may be put together.
func TestRowsAll(t *testing.T) {
	seen := samples.Seen{}
	for _, a := range rising(6) {
		seen[holdsRows(t, []api.Row{stamped(7, a...)})]++
		for _, b := range rising(6) {
			seen[holdsRows(t, []api.Row{stamped(0, a...), stamped(65535, b...)})]++
		}
	}
	for _, a := range rising(4) {
		for _, b := range rising(4) {
			for _, c := range rising(4) {
				seen[holdsRows(t, []api.Row{stamped(0, a...), stamped(1, b...), stamped(2, c...)})]++
			}
		}
	}
	if rare := seen.Rare(api.OK, api.ErrGap, api.ErrDouble); len(rare) > 0 {
		t.Errorf("hardly seen: %v", rare)
	}
}

// someRows are rows with numbers about their bounds, and all rows of at most two stamps about theirs.
func someRows() []api.Row {
	stamps := []int{-1, 0, 1, maxEvents - 1, maxEvents}
	var rows []api.Row
	for _, g := range []int{-1, 0, 1, maxG - 1, maxG} {
		for _, b := range samples.AllBodies(2, 0, 1, 2, 3, 4) {
			r := api.Row{G: g}
			for k, n := range b {
				r.Recs = append(r.Recs, rec(stamps[n], k, g))
			}
			rows = append(rows, r)
		}
	}
	return rows
}

// TestRowsWithFaults: all pairs of such rows, and many threes.
func TestRowsWithFaults(t *testing.T) {
	seen := samples.Seen{}
	rows := someRows()
	for _, a := range rows {
		seen[holdsRows(t, []api.Row{a})]++
		for _, b := range rows {
			seen[holdsRows(t, []api.Row{a, b})]++
		}
	}
	r := rand.New(rand.NewSource(21))
	for range 40000 {
		three := []api.Row{rows[r.Intn(len(rows))], rows[r.Intn(len(rows))], rows[r.Intn(len(rows))]}
		if r.Intn(2) == 0 {
			slices.SortStableFunc(three, func(a, b api.Row) int { return a.G - b.G })
		}
		seen[holdsRows(t, three)]++
	}
	if rare := seen.Rare(api.ErrRow, api.ErrStamp, api.ErrOrder, api.ErrGap, api.ErrDouble); len(rare) > 0 {
		t.Errorf("hardly seen: %v", rare)
	}
}

// TestWrongNumbers: numbers of rows and stamps far from those that may be.
func TestWrongNumbers(t *testing.T) {
	for _, n := range []int{-2, -1 << 32, 1 << 32, 1<<32 + 1, math.MaxInt, math.MinInt} {
		for want, wrong := range map[api.Errno]api.Row{
			api.ErrRow:   row(n, rec(1, 1, 0)),
			api.ErrStamp: row(1, rec(n, 1, 0)),
		} {
			for _, rows := range [][]api.Row{{wrong}, {row(0, rec(0, 1, 0)), wrong}, {wrong, row(2, rec(0, 1, 0))}} {
				if got := holdsRows(t, rows); got != want {
					t.Errorf("P10.2: Merge(%v): %d, want %d", rows, got, want)
				}
			}
		}
	}
}

// spoilt are the rows of a trace with one to three changes, of which none, one or more may matter.
func spoilt(pick func(below int) int, rows []api.Row) []api.Row {
	rows = cloneRows(rows)
	for range 1 + pick(3) {
		if len(rows) == 0 {
			return rows
		}
		k := pick(len(rows))
		r := &rows[k]
		at := pick(len(r.Recs) + 1)
		switch pick(7) {
		case 0:
			r.Recs = slices.Insert(r.Recs, at, rec(pick(60)-2, pick(30), pick(9)))
		case 1:
			r.Recs = slices.Delete(r.Recs, at, min(at+1, len(r.Recs)))
		case 2:
			r.G += pick(5) - 2
		case 3:
			rows = slices.Delete(rows, k, k+1)
		case 4:
			rows[0], rows[k] = rows[k], rows[0]
		case 5:
			if at < len(r.Recs) {
				r.Recs[at].Stamp += pick(5) - 2
			}
		case 6:
			if at < len(r.Recs) {
				r.Recs[at].Kind, r.Recs[at].Stack = anyInt(pick), anyInt(pick)
			}
		}
	}
	return rows
}

func TestRowsSpoilt(t *testing.T) {
	r := rand.New(rand.NewSource(22))
	seen := samples.Seen{}
	for range 20000 {
		tr, ids := anyTrace(r.Intn, r.Intn(40), 1+r.Intn(12))
		rows, _ := plainSplit(tr, ids)
		holdsRows(t, rows)
		seen[holdsRows(t, spoilt(r.Intn, rows))]++
	}
	if rare := seen.Rare(api.OK, api.ErrRow, api.ErrStamp, api.ErrOrder, api.ErrGap, api.ErrDouble); len(rare) > 0 {
		t.Errorf("hardly seen: %v", rare)
	}
}

// without are rows with one record less, and its row too, if that was all of it.
func without(rows []api.Row, k, n int) []api.Row {
	rows = cloneRows(rows)
	rows[k].Recs = slices.Delete(rows[k].Recs, n, n+1)
	if len(rows[k].Recs) == 0 {
		return slices.Delete(rows, k, k+1)
	}
	return rows
}

// with are rows with one record more, in its place by the stamps, in a row that need not be there.
func with(rows []api.Row, g int, x api.Rec) []api.Row {
	rows = cloneRows(rows)
	k, found := slices.BinarySearchFunc(rows, g, func(r api.Row, g int) int { return r.G - g })
	if !found {
		return slices.Insert(rows, k, row(g, x))
	}
	n, _ := slices.BinarySearchFunc(rows[k].Recs, x.Stamp, func(y api.Rec, s int) int { return y.Stamp - s })
	rows[k].Recs = slices.Insert(rows[k].Recs, n, x)
	return rows
}

// holdsTakenOut asks what is said of a record that is taken out, for each.
func holdsTakenOut(t *testing.T, tr []api.Event, ids []int) {
	t.Helper()
	rows, _ := merge.Split(tr, ids)
	last := len(tr) - 1
	for k, r := range rows {
		for n, x := range r.Recs {
			less := without(rows, k, n)
			got, numbers, e := merge.Merge(less)
			if x.Stamp != last && (e != api.ErrGap || len(got)+len(numbers) != 0) {
				t.Fatalf("P10.6: %v without the stamp %d: %v, %v, %d", rows, x.Stamp, got, numbers, e)
			}
			if x.Stamp == last && (e != api.OK || !sameTrace(got, bare(tr[:last])) || !slices.Equal(numbers, ids[:last])) {
				t.Fatalf("P10.6: %v without the last record: %v, %v, %d", rows, got, numbers, e)
			}
		}
	}
}

// holdsOneMore asks what is said of a stamp that stands in another row, too, for each stamp and row.
func holdsOneMore(t *testing.T, tr []api.Event, ids []int, goroutines int) {
	t.Helper()
	rows, _ := merge.Split(tr, ids)
	for stamp, x := range tr {
		for g := range goroutines {
			if g == x.G {
				continue
			}
			more := with(rows, g, api.Rec{Stamp: stamp, Kind: x.Kind, Obj: x.Obj, Arg: x.Arg, Stack: ids[stamp]})
			if got, numbers, e := merge.Merge(more); e != api.ErrDouble || len(got)+len(numbers) != 0 {
				t.Fatalf("P10.6: %v with the stamp %d in the row %d, too: %v, %v, %d", rows, stamp, g, got, numbers, e)
			}
		}
	}
}

func TestOneLessOneMore(t *testing.T) {
	for _, b := range samples.AllBodies(6, 0, 1, 2) {
		gs := make([]int, len(b))
		for k, g := range b {
			gs[k] = int(g)
		}
		tr, ids := trace(gs...)
		holdsTakenOut(t, tr, ids)
		holdsOneMore(t, tr, ids, 4)
	}
	r := rand.New(rand.NewSource(23))
	for n := range 60 {
		tr, ids := anyTrace(r.Intn, n, 1+r.Intn(9))
		holdsTakenOut(t, tr, ids)
		holdsOneMore(t, tr, ids, 10)
	}
}
