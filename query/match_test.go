package query_test

import (
	"fmt"
	"math"
	"slices"
	"strings"
	"testing"

	"hindsight/api"
	"hindsight/event"
	"hindsight/query"
)

// few are events that the words and the fields of short queries tell apart.
var few = []placed{
	{api.Event{}, 0},
	{api.Event{G: 1, Kind: api.Read, Obj: 2, Arg: 1, Stack: []string{"x"}}, 1},
	{api.Event{G: -1, Kind: api.Write, Obj: 1, Stack: []string{"f", "2"}}, -1},
	{api.Event{G: 1, Kind: api.Fork, Obj: 3, Stack: []string{"2", "f"}}, 2},
	{api.Event{G: 19, Kind: api.Mark, Obj: 1, Arg: 1, Stack: []string{""}}, 3},
}

// crowd are events of all kinds and none, good ones and others, at places of all sorts.
func crowd() []placed {
	gs := []int{0, 1, 2, 7, -1, -2, api.MaxG, math.MinInt, math.MaxInt, math.MinInt + 1, 1 << 32}
	numbers := []uint64{0, 1, 2, 7, 16, 1 << 63, 1<<63 - 1, 1<<64 - 1, 1<<64 - 2, 1 << 32}
	stacks := [][]string{nil, {}, {""}, {"", ""}, {"b", "cab"}, {"cab", "b"}, {"main"}, {"f", "main"}, {"f", "f", "main"}, {"", "f"}, {"f", ""}, {"\xff\x00", "a\"b\\\n\t"}, slices.Repeat([]string{"f"}, api.MaxDepth), slices.Repeat([]string{"main"}, 40), {strings.Repeat("x", api.MaxSite+1) + "f"}}
	var list []placed
	for k := range 600 {
		list = append(list, placed{api.Event{
			G:     gs[k%len(gs)],
			Kind:  k%27 - 2,
			Obj:   numbers[k/2%len(numbers)],
			Arg:   numbers[k/3%len(numbers)],
			Stack: stacks[k/5%len(stacks)],
		}, gs[k/7%len(gs)]})
	}
	return append(list, few...)
}

// matches fails if a query chooses an event at a place, or does not choose it, other than it should.
func matches(t *testing.T, text string, e api.Event, at int, want bool) {
	t.Helper()
	q, _, fault := query.Compile(text)
	if got := q.Match(e, at); got != want || fault != api.OK {
		t.Errorf("P24.3: %s at %d, %v: %v, %d, want %v", text, at, e, got, fault, want)
	}
}

func TestMatchExamples(t *testing.T) {
	two := api.Event{Kind: api.Mark, Stack: []string{"b", "cab"}}
	matches(t, `site ~ "a"`, two, 0, true)
	matches(t, `site != "b"`, two, 0, false)
	matches(t, `leaf = "b"`, two, 0, true)
	matches(t, `root = "cab"`, two, 0, true)
	matches(t, `depth = 2`, two, 0, true)
	for _, stack := range [][]string{nil, {}} {
		none := api.Event{Kind: api.Mark, Stack: stack}
		matches(t, `site ~ ""`, none, 0, false)
		matches(t, `site != "b"`, none, 0, true)
		matches(t, `leaf = ""`, none, 0, true)
	}

	q := compiled(t, "kind in (read, write)", "kind in (read, write)")
	if got := q.Select([]api.Event{{Kind: api.Fork, Arg: 1}, {Kind: api.Write}, {Kind: api.Mark}, {Kind: api.Read}}); !slices.Equal(got, []int{1, 3}) {
		t.Errorf("P24.3: Select = %v", got)
	}
	q = compiled(t, "all", "all")
	if got := q.Count([]api.Event{{G: 2}, {G: 0}, {G: 2}}); !slices.Equal(got, []api.Tick{{G: 0, T: 1}, {G: 2, T: 2}}) {
		t.Errorf("P24.3: Count = %v", got)
	}
}

// TestWords: of each kind, and of numbers that are none; whatever else the event has.
func TestWords(t *testing.T) {
	for _, kind := range []int{math.MinInt, -3, -1, 0, 1, 2, 3, 4, 5, 6, 7, 8, 9, 10, 11, 12, 13, 14, 15, 16, 17, 18, 19, 20, 21, 22, 23, 24, 258, math.MaxInt} {
		for _, e := range []api.Event{{Kind: kind}, {Kind: kind, G: -1, Obj: 1<<64 - 1, Arg: 1<<64 - 1, Stack: make([]string, 17)}} {
			matches(t, "all", e, 0, true)
			matches(t, "none", e, 0, false)
			matches(t, "access", e, 0, kind == 1 || kind == 2)
			matches(t, "sync", e, 0, event.Sync(kind))
			for k, name := range names[1:] {
				matches(t, "kind = "+name, e, 0, kind == k+1)
				matches(t, "kind != "+name, e, 0, kind != k+1)
				matches(t, "kind in ("+name+")", e, 0, kind == k+1)
				matches(t, "kind in (mark, "+name+", "+name+")", e, 0, kind == k+1 || kind == api.Mark)
			}
		}
	}
}

// TestNumberFields: each field with each sign, right at a number and on both sides of it; below 0 what an int is.
func TestNumberFields(t *testing.T) {
	ends := []uint64{0, 1, 2, 1 << 32, 1<<63 - 2, 1<<63 - 1, 1 << 63, 1<<63 + 1, 1<<64 - 2, 1<<64 - 1}
	ints := []int{math.MinInt, math.MinInt + 1, -2, -1, 0, 1, 2, 1 << 32, math.MaxInt - 1, math.MaxInt}
	for _, n := range ends {
		for sign, of := range map[string][3]bool{"=": {false, true, false}, "!=": {true, false, true}, "<": {true, false, false}, "<=": {true, true, false}, ">": {false, false, true}, ">=": {false, true, true}} {
			test := fmt.Sprintf(" %s %d", sign, n)
			for _, have := range ends {
				want := of[1]
				if have < n {
					want = of[0]
				} else if have > n {
					want = of[2]
				}
				matches(t, "obj"+test, api.Event{Obj: have, Arg: n}, 5, want)
				matches(t, "arg"+test, api.Event{Arg: have, Obj: n}, 5, want)
			}
			for _, have := range ints {
				want := of[1]
				if have < 0 || uint64(have) < n {
					want = of[0]
				} else if uint64(have) > n {
					want = of[2]
				}
				matches(t, "g"+test, api.Event{G: have, Obj: n, Arg: n}, 5, want)
				matches(t, "at"+test, api.Event{G: 5, Obj: n, Arg: n}, have, want)
			}
			for have := range 40 {
				want := of[0]
				if n < 3 {
					want = of[1+min(1, max(-1, have-int(n)))]
				}
				matches(t, "depth"+test, api.Event{G: 5, Stack: make([]string, have)}, 5, want)
			}
		}
	}
}

// TestTextFields: leaf is the first frame, root the last one, site any; the empty text, frames that are empty,
// a text that is a frame's beginning, its middle or its end.
func TestTextFields(t *testing.T) {
	stacks := [][]string{nil, {}, {""}, {"", ""}, {"a"}, {"ab"}, {"abc"}, {"a", "b"}, {"b", "a"}, {"a", "b", "c"}, {"", "a"}, {"a", ""}, {"ab", "bc"}, {"x", "abc", "y"}, {"abab"}, {"A"}, {"\xff", "\x00"}, {strings.Repeat("a", api.MaxSite) + "b"}, slices.Repeat([]string{"b"}, 50)}
	for _, text := range []string{"", "a", "b", "ab", "bc", "abc", "c", "A", "\xff", "\x00", "\n", "aab", "ba"} {
		for _, stack := range stacks {
			e := api.Event{G: 3, Kind: api.Mark, Stack: stack}
			for _, field := range []string{"leaf", "root", "site"} {
				frames := stack
				if field != "site" && len(stack) == 0 {
					frames = []string{""}
				} else if field == "leaf" {
					frames = stack[:1]
				} else if field == "root" {
					frames = stack[len(stack)-1:]
				}
				has := strings.Contains(strings.Join(frames, "|"), text) && len(frames) > 0 // none of the texts has a "|"
				is := slices.Contains(frames, text)
				token := plainText(text)
				matches(t, field+" = "+token, e, 0, is)
				matches(t, field+" != "+token, e, 0, !is)
				matches(t, field+" ~ "+token, e, 0, has)
				matches(t, field+" !~ "+token, e, 0, !has)
			}
		}
	}
}

// TestSelectAndCount: an event's place counts, goroutines may be any int, and rise.
func TestSelectAndCount(t *testing.T) {
	var list []api.Event
	for _, x := range crowd() {
		list = append(list, x.Event)
	}
	for _, text := range []string{"all", "none", "at < 3", "at >= 600", "at = 7 or at = 11", "g < 0", "not g < 1", "sync", "site ~ \"\"", "kind = mark and at > 100", "depth > 16"} {
		q := compiled(t, text, text)
		asked(t, q, list)
		asked(t, q, list[:1])
		asked(t, q, nil)
	}
	q := compiled(t, "at != 1", "at != 1")
	if got := q.Select(make([]api.Event, 4)); !slices.Equal(got, []int{0, 2, 3}) {
		t.Errorf("P24.3: Select = %v", got)
	}
	ends := []api.Event{{G: math.MaxInt}, {G: 3}, {G: math.MinInt}, {G: -1}, {G: 0}, {G: math.MinInt}, {G: 1}, {G: -1}}
	if got := q.Count(ends); !slices.Equal(got, []api.Tick{{G: math.MinInt, T: 2}, {G: -1, T: 2}, {G: 0, T: 1}, {G: 1, T: 1}, {G: math.MaxInt, T: 1}}) {
		t.Errorf("P24.3: Count = %v", got)
	}
	if got := q.Count(nil); len(got) != 0 {
		t.Errorf("P24.3: Count of no events = %v", got)
	}
}

// TestNoQuery: a query that is nil, and one that Compile did not make, answer nothing.
func TestNoQuery(t *testing.T) {
	list := []api.Event{{Kind: api.Read, Obj: 8, Arg: 1}, {}}
	for _, q := range []*query.Query{nil, {}, new(query.Query)} {
		if q.Text() != "" || q.Match(list[0], 0) || q.Match(api.Event{}, -1) || len(q.Select(list)) != 0 || len(q.Count(list)) != 0 || len(q.Select(nil)) != 0 || len(q.Count(nil)) != 0 {
			t.Errorf("P24.6: a query that was not made answers something")
		}
	}
}
