package report_test

import (
	"math/rand"
	"slices"
	"strings"
	"testing"
	"unsafe"

	"hindsight/api"
	"hindsight/event"
	"hindsight/report"
	"hindsight/samples"
)

// fickle is a string over bytes that change later, as its maker knows.
func fickle(s string) (string, []byte) {
	b := []byte(s)
	return unsafe.String(unsafe.SliceData(b), len(b)), b
}

// fickleList are such strings, with spare room behind the list.
func fickleList(list []string) ([]string, [][]byte) {
	room := make([]string, 0, len(list)+2)
	var bytes [][]byte
	for _, s := range list {
		from, b := fickle(s)
		room, bytes = append(room, from), append(bytes, b)
	}
	return room, bytes
}

// fickleTrace is a trace with such frames, with spare room behind the list and behind each stack.
func fickleTrace(trace []api.Event) ([]api.Event, [][]byte) {
	list := append(make([]api.Event, 0, len(trace)+2), trace...)
	var bytes [][]byte
	for k := range list {
		stack, b := fickleList(trace[k].Stack)
		list[k].Stack, bytes = stack, append(bytes, b...)
	}
	return list, bytes
}

// answers are those of all calls.
type answers struct {
	text   string
	firsts []api.Race
	counts []int
	quiet  []bool
	place  int
	faults []api.Errno
	fits   []bool
}

// ask asks all calls of a trace, of races and of rules; patterns are the rules'.
func ask(trace []api.Event, races []api.Race, rules []string) answers {
	a := answers{faults: make([]api.Errno, 3)}
	a.text, a.faults[0] = report.Text(trace, rules)
	a.firsts, a.counts, a.faults[1] = report.Group(trace, races)
	a.place, a.faults[2] = report.Rules(rules)
	for _, r := range races {
		quiet, fault := report.Quiet(trace, r, rules)
		a.quiet, a.faults = append(a.quiet, quiet), append(a.faults, fault)
	}
	for _, rule := range rules {
		for _, e := range trace {
			for _, frame := range e.Stack {
				a.fits = append(a.fits, report.Match(rule, frame), report.Match(rule, rule+frame))
			}
		}
	}
	return a
}

func (a answers) same(b answers) bool {
	return a.text == b.text && slices.Equal(a.firsts, b.firsts) && slices.Equal(a.counts, b.counts) && slices.Equal(a.quiet, b.quiet) && a.place == b.place && slices.Equal(a.faults, b.faults) && slices.Equal(a.fits, b.fits)
}

func (a answers) deep() answers {
	a.text = strings.Clone(a.text)
	a.firsts, a.counts = slices.Clone(a.firsts), slices.Clone(a.counts)
	return a
}

// TestNothingIsChanged: neither lists nor frames, nor the room behind them; and what becomes of them behind the call
// changes no answer.
func TestNothingIsChanged(t *testing.T) {
	r := rand.New(rand.NewSource(2551))
	wrote := 0
	for range 500 {
		run, rules := someRun(r, 30), someRules(r)
		var races []api.Race
		for range r.Intn(20) * min(len(run), 1) {
			races = append(races, at(r.Intn(len(run)), r.Intn(len(run))))
		}
		want := ask(run, races, rules).deep()

		trace, frames := fickleTrace(run)
		list, texts := fickleList(rules)
		pairs := append(make([]api.Race, 0, len(races)+2), races...)
		got := ask(trace, pairs, list)
		if !slices.EqualFunc(trace, run, event.Same) || !slices.Equal(list, rules) || !slices.Equal(pairs, races) {
			t.Fatalf("P25.8: what was handed in became %s, %q, %v", brief(trace), list, pairs)
		}
		for _, e := range trace {
			if room := e.Stack[:cap(e.Stack)]; room[len(room)-1] != "" || room[len(room)-2] != "" {
				t.Fatalf("P25.8: the room behind a stack became %q", room)
			}
		}
		if !event.Same(trace[:cap(trace)][len(trace)], api.Event{}) || list[:cap(list)][len(list)] != "" || pairs[:cap(pairs)][len(pairs)] != (api.Race{}) {
			t.Fatal("P25.8: the room behind a list was changed")
		}

		for _, b := range append(frames, texts...) {
			samples.Spoil(b, 'z')
		}
		for k := range trace {
			samples.Spoil(trace[k].Stack, "spoilt")
		}
		samples.Spoil(trace, api.Event{G: 99, Kind: 98, Stack: []string{"spoilt"}})
		samples.Spoil(list, "spoilt")
		samples.Spoil(pairs, at(-9, 99))
		if !got.same(want) || !ask(run, races, rules).same(want) {
			t.Fatalf("P25.8: of %s, %v and %q: %v, and later %v", brief(run), races, rules, want, got)
		}
		wrote += len(frames)
	}
	if wrote < 5000 {
		t.Errorf("the test met %d frames only", wrote)
	}
}

// TestAnswersAreNew: who writes over an answer, or over the room behind it, changes no other one and nothing that
// was handed in.
func TestAnswersAreNew(t *testing.T) {
	r := rand.New(rand.NewSource(2552))
	for range 300 {
		trace := marks(someStack(r), someStack(r), someStack(r), nil)
		var races []api.Race
		for range 1 + r.Intn(12) {
			races = append(races, at(r.Intn(4), r.Intn(4)))
		}
		handed := slices.Clone(races)
		firsts, counts, _ := report.Group(trace, races)
		calm, calmCounts, _ := report.Group(trace, races)
		want, wantCounts := slices.Clone(calm), slices.Clone(calmCounts)
		samples.Spoil(firsts, at(-9, -9))
		if !slices.Equal(counts, wantCounts) {
			t.Fatalf("P25.8: the two lists of an answer share memory: %v", counts)
		}
		samples.Spoil(counts, -9)
		_, _ = append(firsts, at(7, 7), at(7, 7)), append(counts, 7, 7)
		if !slices.Equal(races, handed) || !slices.Equal(calm, want) || !slices.Equal(calmCounts, wantCounts) {
			t.Fatalf("P25.8: of %v: something was changed", handed)
		}
		groups(t, trace, races, want, wantCounts...)
	}
}

// TestGroupsOfOne: a list of which all are left is a new one, too.
func TestGroupsOfOne(t *testing.T) {
	trace := marks([]string{"a"}, []string{"b"}, []string{"c"})
	races := []api.Race{at(0, 1), at(1, 2), at(2, 0)}
	firsts, _, _ := report.Group(trace, races)
	samples.Spoil(firsts, at(-9, -9))
	groups(t, trace, races, []api.Race{at(0, 1), at(1, 2), at(2, 0)}, 1, 1, 1)
}

// TestTextsAreNew: two texts of one trace don't share their bytes.
func TestTextsAreNew(t *testing.T) {
	for _, trace := range [][]api.Event{nil, {mark()}, {fork(1), write(1, 8, 4, "f"), write(0, 8, 4, "g")}} {
		one, _ := report.Text(trace, nil)
		other, _ := report.Text(trace, nil)
		if unsafe.StringData(one) == unsafe.StringData(other) || one != other {
			t.Errorf("P25.8: two texts share their bytes: %q, %q", one, other)
		}
	}
}

// TestNothingIsKept: what was asked ahead of it, taken or refused, changes no answer.
func TestNothingIsKept(t *testing.T) {
	r := rand.New(rand.NewSource(2553))
	type question struct {
		run   []api.Event
		races []api.Race
		rules []string
	}
	var all []question
	var want []answers
	for range 40 {
		q := question{someRun(r, 30), nil, someRules(r)}
		if len(q.run) > 0 {
			q.races = []api.Race{at(0, 0), at(len(q.run)-1, 0), at(r.Intn(len(q.run)), 0)}
		}
		all, want = append(all, q), append(want, ask(q.run, q.races, q.rules).deep())
	}
	for range 1000 {
		ask([]api.Event{ev(1, api.Mark, 0, 0, "f")}, []api.Race{at(0, 0), at(0, 1)}, badRules()[r.Intn(4)])
		k := r.Intn(len(all))
		if got := ask(all[k].run, all[k].races, all[k].rules); !got.same(want[k]) {
			t.Fatalf("P0.3: of %s, %v, %q: other answers than ahead of it", brief(all[k].run), all[k].races, all[k].rules)
		}
	}
}
