package report_test

import (
	"fmt"
	"slices"
	"strings"
	"testing"

	"hindsight/api"
	"hindsight/race"
	"hindsight/report"
)

// The chapter's words, read plainly: the calls are held against these.

// plainMatch goes through the pattern and keeps at which bytes of the text the pieces so far may end.
func plainMatch(pattern, text string) bool {
	ends := make([]bool, len(text)+1)
	ends[0] = true
	for k := range len(pattern) {
		next := make([]bool, len(text)+1)
		for at := range next {
			if pattern[k] == 42 {
				next[at] = ends[at] || at > 0 && next[at-1]
			} else {
				next[at] = at > 0 && ends[at-1] && text[at-1] == pattern[k]
			}
		}
		ends = next
	}
	return ends[len(text)]
}

// plainIsRule tells whether a text is a rule.
func plainIsRule(text string) bool {
	if len(text) > 4096 {
		return false
	}
	for _, words := range []string{"race:", "top:", "both:"} {
		if len(text) > len(words) && text[:len(words)] == words {
			return true
		}
	}
	return false
}

// plainRules is what Rules answers.
func plainRules(rules []string) (int, api.Errno) {
	if len(rules) > 64 {
		return 64, api.ErrRule
	}
	for place, rule := range rules {
		if !plainIsRule(rule) {
			return place, api.ErrRule
		}
	}
	return -1, api.OK
}

// plainSilences tells whether a rule silences a race with these stacks.
func plainSilences(rule string, a, b []string) bool {
	words, pattern, _ := strings.Cut(rule, ":")
	fits := func(frame string) bool { return plainMatch(pattern, frame) }
	inA, inB := slices.ContainsFunc(a, fits), slices.ContainsFunc(b, fits)
	switch words {
	case "race":
		return inA || inB
	case "top":
		return len(a) > 0 && fits(a[0]) || len(b) > 0 && fits(b[0])
	}
	return inA && inB
}

// plainHas tells whether a trace has an event at a place.
func plainHas(trace []api.Event, place int) bool { return place >= 0 && place < len(trace) }

// plainQuiet is what Quiet answers.
func plainQuiet(trace []api.Event, r api.Race, rules []string) (bool, api.Errno) {
	if _, fault := plainRules(rules); fault != api.OK {
		return false, fault
	}
	if !plainHas(trace, r.First) || !plainHas(trace, r.Second) {
		return false, api.ErrEvent
	}
	return slices.ContainsFunc(rules, func(rule string) bool {
		return plainSilences(rule, trace[r.First].Stack, trace[r.Second].Stack)
	}), api.OK
}

// plainAlike tells whether two races are alike.
func plainAlike(trace []api.Event, r, s api.Race) bool {
	same := func(i, j int) bool { return slices.Equal(trace[i].Stack, trace[j].Stack) }
	return same(r.First, s.First) && same(r.Second, s.Second) || same(r.First, s.Second) && same(r.Second, s.First)
}

// plainGroup is what Group answers.
func plainGroup(trace []api.Event, races []api.Race) (firsts []api.Race, counts []int, fault api.Errno) {
	for _, r := range races {
		if !plainHas(trace, r.First) || !plainHas(trace, r.Second) {
			return nil, nil, api.ErrEvent
		}
	}
	for _, r := range races {
		k := slices.IndexFunc(firsts, func(first api.Race) bool { return plainAlike(trace, first, r) })
		if k < 0 {
			firsts, counts = append(firsts, r), append(counts, 1)
		} else {
			counts[k]++
		}
	}
	return firsts, counts, api.OK
}

// plainShown is a text as it is shown.
func plainShown(text string) string {
	var s strings.Builder
	for _, b := range []byte(text) {
		switch {
		case b == 34 || b == 92:
			fmt.Fprintf(&s, "\\%c", b)
		case b >= 32 && b <= 126:
			fmt.Fprintf(&s, "%c", b)
		default:
			fmt.Fprintf(&s, "\\x%02x", b)
		}
	}
	return `"` + s.String() + `"`
}

// plainText is what Text answers.
func plainText(trace []api.Event, rules []string) (string, api.Errno) {
	all, _, fault := race.All(trace)
	if fault != api.OK {
		return "", fault
	}
	if _, fault := plainRules(rules); fault != api.OK {
		return "", fault
	}
	var told []api.Race
	for _, r := range all {
		if quiet, _ := plainQuiet(trace, r, rules); !quiet {
			told = append(told, r)
		}
	}
	var s strings.Builder
	firsts, counts, _ := plainGroup(trace, told)
	for k, r := range firsts {
		fmt.Fprintf(&s, "RACE %d: %d times\n", k+1, counts[k])
		for _, place := range []int{r.First, r.Second} {
			e := trace[place]
			fmt.Fprintf(&s, "  %s of %d bytes at 0x%x by goroutine %d, event %d\n", []string{1: "read", 2: "write"}[e.Kind], e.Arg, e.Obj, e.G, place)
			for _, frame := range e.Stack {
				fmt.Fprintf(&s, "    %s\n", plainShown(frame))
			}
		}
	}
	fmt.Fprintf(&s, "TOTAL: %d races in %d groups, %d silenced, %d events\n", len(told), len(firsts), len(all)-len(told), len(trace))
	return s.String(), api.OK
}

// ev is an event with a stack, the innermost frame first.
func ev(g, kind int, obj, arg uint64, stack ...string) api.Event {
	return api.Event{G: g, Kind: kind, Obj: obj, Arg: arg, Stack: stack}
}

func read(g int, address, bytes uint64, stack ...string) api.Event {
	return ev(g, api.Read, address, bytes, stack...)
}

func write(g int, address, bytes uint64, stack ...string) api.Event {
	return ev(g, api.Write, address, bytes, stack...)
}

func fork(other int) api.Event { return ev(0, api.Fork, 0, uint64(other)) }

func mark(stack ...string) api.Event { return ev(0, api.Mark, 0, 0, stack...) }

func at(first, second int) api.Race { return api.Race{First: first, Second: second} }

// marks is a trace of an event for each stack.
func marks(stacks ...[]string) []api.Event {
	var trace []api.Event
	for _, stack := range stacks {
		trace = append(trace, mark(stack...))
	}
	return trace
}

// brief is a text, or a list, as messages show it.
func brief(x any) string {
	s := fmt.Sprintf("%q", x)
	return s[:min(len(s), 1000)]
}

// matches fails if Match, or the plain reading, does not answer this.
func matches(t *testing.T, pattern, text string, want bool) {
	t.Helper()
	if got := report.Match(pattern, text); got != want {
		t.Errorf("P25.1: Match(%s, %s) = %v", brief(pattern), brief(text), got)
	}
	if got := plainMatch(pattern, text); got != want {
		t.Errorf("the plain reading of %s, %s is %v", brief(pattern), brief(text), got)
	}
}

// faulty fails if Rules does not answer this, and if the other calls take rules that may not be given, or refuse such
// that may.
func faulty(t *testing.T, rules []string, place int, want api.Errno) {
	t.Helper()
	if got, fault := report.Rules(rules); got != place || fault != want {
		t.Errorf("P25.2: Rules(%s) = %d, %d, want %d, %d", brief(rules), got, fault, place, want)
	}
	if got, fault := plainRules(rules); got != place || fault != want {
		t.Errorf("the plain reading of %s is %d, %d", brief(rules), got, fault)
	}
	if quiet, fault := report.Quiet(marks(nil), at(0, 0), rules); quiet || fault != want {
		t.Errorf("P25.3: Quiet with %s = %v, %d, want false, %d", brief(rules), quiet, fault, want)
	}
	total := "TOTAL: 0 races in 0 groups, 0 silenced, 0 events\n"
	if want != api.OK {
		total = ""
	}
	if text, fault := report.Text(nil, rules); text != total || fault != want {
		t.Errorf("P25.5: Text with %s = %s, %d, want %s, %d", brief(rules), brief(text), fault, brief(total), want)
	}
}

// hushes fails if Quiet does not answer this, whichever of the two events is the first one.
func hushes(t *testing.T, trace []api.Event, r api.Race, rules []string, want bool, wrong api.Errno) {
	t.Helper()
	for _, s := range []api.Race{r, at(r.Second, r.First)} {
		if got, fault := report.Quiet(trace, s, rules); got != want || fault != wrong {
			t.Errorf("P25.3: Quiet(%s, %v, %s) = %v, %d, want %v, %d", brief(trace), s, brief(rules), got, fault, want, wrong)
		}
		if got, fault := plainQuiet(trace, s, rules); got != want || fault != wrong {
			t.Errorf("the plain reading of %s, %v, %s is %v, %d", brief(trace), s, brief(rules), got, fault)
		}
	}
}

// groups fails if Group does not answer these.
func groups(t *testing.T, trace []api.Event, races, firsts []api.Race, counts ...int) {
	t.Helper()
	if got, n, fault := report.Group(trace, races); !slices.Equal(got, firsts) || !slices.Equal(n, counts) || fault != api.OK {
		t.Errorf("P25.4: Group(%s, %v) = %v, %v, %d, want %v, %v", brief(trace), brief(races), brief(got), brief(n), fault, brief(firsts), brief(counts))
	}
	if got, n, fault := plainGroup(trace, races); !slices.Equal(got, firsts) || !slices.Equal(n, counts) || fault != api.OK {
		t.Errorf("the plain reading of %s, %v is %v, %v, %d", brief(trace), brief(races), brief(got), brief(n), fault)
	}
}

// ungrouped fails if Group takes races.
func ungrouped(t *testing.T, trace []api.Event, races ...api.Race) {
	t.Helper()
	if got, n, fault := report.Group(trace, races); len(got) != 0 || len(n) != 0 || fault != api.ErrEvent {
		t.Errorf("P25.4: Group(%s, %v) = %v, %v, %d, want none, none, %d", brief(trace), brief(races), brief(got), brief(n), fault, api.ErrEvent)
	}
}

// reports fails if Text does not answer this.
func reports(t *testing.T, trace []api.Event, rules []string, want string) {
	t.Helper()
	if got, fault := report.Text(trace, rules); got != want || fault != api.OK {
		t.Errorf("P25.5: Text(%s, %s) = %d\n%s\nwant\n%s", brief(trace), brief(rules), fault, got, want)
	}
	if got, fault := plainText(trace, rules); got != want || fault != api.OK {
		t.Errorf("the plain reading of %s, %s is %d\n%s", brief(trace), brief(rules), fault, got)
	}
}

// unreported fails if Text takes a trace and rules, or answers another error.
func unreported(t *testing.T, trace []api.Event, rules []string, want api.Errno) {
	t.Helper()
	if got, fault := report.Text(trace, rules); got != "" || fault != want {
		t.Errorf("P25.5: Text(%s, %s) = %s, %d, want none, %d", brief(trace), brief(rules), brief(got), fault, want)
	}
}
