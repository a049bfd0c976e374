package report_test

import (
	"math/rand"
	"slices"
	"testing"

	"hindsight/api"
	"hindsight/report"
	"hindsight/samples"
)

func TestGroupExamples(t *testing.T) {
	trace := []api.Event{fork(1), write(1, 8, 4, "g", "main"), read(0, 10, 1, "f", "main")}
	groups(t, trace, []api.Race{at(1, 2), at(2, 1), at(1, 2)}, []api.Race{at(1, 2)}, 3)
	groups(t, trace, []api.Race{at(0, 1), at(1, 2)}, []api.Race{at(0, 1), at(1, 2)}, 1, 1)
	ungrouped(t, trace, at(1, 3))
	groups(t, trace, nil, nil)
	groups(t, nil, nil, nil)
}

// together fails if the races of two pairs of events with these stacks are not alike, or are, against what is told;
// whichever stack stands first.
func together(t *testing.T, a, b, c, d []string, want bool) {
	t.Helper()
	trace := marks(a, b, c, d)
	for _, x := range [][2]api.Race{{at(0, 1), at(2, 3)}, {at(0, 1), at(3, 2)}, {at(3, 2), at(1, 0)}, {at(2, 3), at(1, 0)}} {
		if want {
			groups(t, trace, x[:], x[:1], 2)
		} else {
			groups(t, trace, x[:], x[:], 1, 1)
		}
	}
}

// TestAlike: both stacks count, all of their frames, in their order, and none of the bytes of two frames as one.
func TestAlike(t *testing.T) {
	f, g := []string{"f", "main"}, []string{"g", "main"}
	together(t, f, g, f, g, true)
	together(t, f, g, g, f, true)
	together(t, f, f, f, f, true)
	together(t, f, f, f, g, false)
	together(t, f, f, g, g, false)
	together(t, f, g, f, nil, false)
	together(t, nil, nil, nil, []string{}, true)
	together(t, nil, f, f, []string{}, true)
	together(t, nil, f, nil, g, false)
	for _, x := range [][2][]string{
		{nil, {""}},
		{{""}, {"", ""}},
		{{"a"}, {"b"}},
		{{"a"}, {"A"}},
		{{"a"}, {"a", ""}},
		{{"a"}, {"", "a"}},
		{{"a", "b"}, {"b", "a"}},
		{{"a", "b"}, {"ab"}},
		{{"a", "b"}, {"ab", ""}},
		{{"ab", "c"}, {"a", "bc"}},
		{{"a", "", "b"}, {"a", "b", ""}},
		{{"a b"}, {"a", "b"}},
		{{"a\x00b"}, {"a", "b"}},
		{{"a", "\x00"}, {"a\x00", ""}},
		{{"a\nb"}, {"a", "b"}},
		{{"a,b"}, {"a", "b"}},
		{{"\"a\" \"b\""}, {"a", "b"}},
		{{"1:a1:b"}, {"a", "b"}},
		{{"\x01a\x01b"}, {"a", "b"}},
		{{"a", "b", "a"}, {"a", "b"}},
		{{"a", "a"}, {"a", "a", "a"}},
		{{"\xff"}, {"\xfe"}},
		{{"\xff"}, {"\ufffd"}},
	} {
		together(t, x[0], f, x[1], f, false)
		together(t, x[0], x[1], x[1], x[0], true)
		together(t, x[0], x[0], x[1], x[1], false)
		together(t, x[0], x[0], x[0], x[1], false)
		together(t, x[0], f, slices.Clone(x[0]), f, true)
	}
}

// TestAllPairsOfStacks: of some stacks each two make a group of their own.
func TestAllPairsOfStacks(t *testing.T) {
	var stacks [][]string
	for _, frame := range []string{"a", "b", "c", "d", "e", "f"} {
		stacks = append(stacks, []string{frame})
	}
	trace := marks(stacks...)
	var races []api.Race
	var counts []int
	for i := range stacks {
		for j := range i + 1 {
			races, counts = append(races, at(i, j)), append(counts, 1)
		}
	}
	groups(t, trace, races, races, counts...)
	groups(t, trace, slices.Concat(races, races), races, slices.Repeat([]int{2}, len(races))...)
}

// TestOrderOfGroups: the groups stand by their first ones, whatever order the events have.
func TestOrderOfGroups(t *testing.T) {
	trace := marks([]string{"f"}, []string{"g"}, nil, []string{"f"}, []string{"g"}, []string{})
	groups(t, trace, []api.Race{at(5, 4), at(0, 1), at(2, 1), at(4, 3), at(1, 2), at(0, 3), at(3, 1)}, []api.Race{at(5, 4), at(0, 1), at(0, 3)}, 3, 3, 1)
	groups(t, trace, []api.Race{at(1, 0), at(0, 1)}, []api.Race{at(1, 0)}, 2)
	groups(t, trace, []api.Race{at(3, 0), at(2, 5), at(5, 5), at(0, 0), at(2, 2)}, []api.Race{at(3, 0), at(2, 5)}, 2, 3)
}

// TestOneUngrouped: one race of events that are not there, among others, wherever it stands.
func TestOneUngrouped(t *testing.T) {
	trace := marks([]string{"f"}, []string{"g"}, nil)
	for _, wrong := range []api.Race{at(-1, 0), at(0, -1), at(3, 0), at(0, 3), at(-1, 3), at(3, 3)} {
		for place := range 4 {
			races := slices.Insert([]api.Race{at(0, 1), at(1, 2), at(1, 0)}, place, wrong)
			ungrouped(t, trace, races...)
			ungrouped(t, trace, append(races, wrong)...)
		}
	}
	ungrouped(t, nil, at(0, 0))
	ungrouped(t, trace[:0], at(0, 0), at(0, 0))
}

// TestRandomGroups: many races over few events with few stacks.
func TestRandomGroups(t *testing.T) {
	r := rand.New(rand.NewSource(2521))
	stacks := samples.AllLists(2, "a", "aa", "")
	most := 0
	for range 3000 {
		var trace []api.Event
		for range 1 + r.Intn(12) {
			trace = append(trace, mark(slices.Clone(stacks[r.Intn(len(stacks))])...))
		}
		var races []api.Race
		for range r.Intn(60) {
			races = append(races, at(r.Intn(len(trace)), r.Intn(len(trace))))
		}
		firsts, counts, fault := report.Group(trace, races)
		want, wantCounts, _ := plainGroup(trace, races)
		if !slices.Equal(firsts, want) || !slices.Equal(counts, wantCounts) || fault != api.OK {
			t.Fatalf("P25.4: Group(%s, %v) = %v, %v, %d, want %v, %v", brief(trace), races, firsts, counts, fault, want, wantCounts)
		}
		if again, n, _ := report.Group(trace, firsts); !slices.Equal(again, firsts) || len(n) > 0 && slices.Max(n) != 1 {
			t.Fatalf("P25.4: the groups of %v are %v, %v", firsts, again, n)
		}
		most = max(most, len(firsts))
	}
	if most < 25 {
		t.Errorf("the test met at most %d groups", most)
	}
}
