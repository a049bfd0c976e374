package report_test

import (
	"fmt"
	"math/rand"
	"slices"
	"strings"
	"testing"

	"hindsight/api"
	"hindsight/race"
	"hindsight/report"
	"hindsight/samples"
)

// total is the last line of a report.
func total(races, groups, silenced, events int) string {
	return fmt.Sprintf("TOTAL: %d races in %d groups, %d silenced, %d events\n", races, groups, silenced, events)
}

func TestTextExamples(t *testing.T) {
	trace := []api.Event{fork(1), write(1, 8, 4, "g", "main"), read(0, 10, 1, "f", "main")}
	whole := `RACE 1: 1 times
  write of 4 bytes at 0x8 by goroutine 1, event 1
    "g"
    "main"
  read of 1 bytes at 0xa by goroutine 0, event 2
    "f"
    "main"
TOTAL: 1 races in 1 groups, 0 silenced, 3 events
`
	reports(t, trace, nil, whole)
	for _, rule := range []string{"top:f", "race:main", "both:main", "race:*"} {
		reports(t, trace, []string{rule}, total(0, 0, 1, 3))
	}
	for _, rule := range []string{"top:main", "both:f"} {
		reports(t, trace, []string{rule}, whole)
	}
	reports(t, nil, nil, total(0, 0, 0, 0))
	unreported(t, []api.Event{ev(1, api.Mark, 0, 0)}, nil, api.ErrBad)
	shows(t, "\"\\\n\xffA", `"\"\\\x0a\xffA"`)
}

// shows fails if a frame is not shown so, on either side of a race.
func shows(t *testing.T, frame, as string) {
	t.Helper()
	for k := range 2 {
		trace := []api.Event{fork(1), write(1, 0, 64), read(0, 7, 1)}
		trace[1+k].Stack = []string{frame, "x", frame}
		lines := "    " + as + "\n    \"x\"\n    " + as + "\n"
		reports(t, trace, nil, "RACE 1: 1 times\n  write of 64 bytes at 0x0 by goroutine 1, event 1\n"+[]string{lines, ""}[k]+"  read of 1 bytes at 0x7 by goroutine 0, event 2\n"+[]string{"", lines}[k]+total(1, 1, 0, 3))
	}
}

// TestShownBytes: each byte in a frame: alone, at the begin, at the end, twice.
func TestShownBytes(t *testing.T) {
	for b := range 256 {
		sign := string([]byte{byte(b)})
		as := fmt.Sprintf(`\x%02x`, b)
		if b == '"' || b == '\\' {
			as = `\` + sign
		} else if b >= ' ' && b <= '~' {
			as = sign
		}
		shows(t, sign, `"`+as+`"`)
		shows(t, "a"+sign, `"a`+as+`"`)
		shows(t, sign+"4"+sign+sign, `"`+as+"4"+as+as+`"`)
	}
	shows(t, "", `""`)
	shows(t, "é\u2028\ufffd", `"\xc3\xa9\xe2\x80\xa8\xef\xbf\xbd"`)
	shows(t, "\n\n", `"\x0a\x0a"`)
	shows(t, `\x41`, `"\\x41"`)
	shows(t, "\nRACE 9: 9 times\n", `"\x0aRACE 9: 9 times\x0a"`)
	shows(t, strings.Repeat("\x00", api.MaxSite), `"`+strings.Repeat(`\x00`, api.MaxSite)+`"`)
}

// TestAccesses: reads and writes on each side, the ends of addresses and sizes, many goroutines.
func TestAccesses(t *testing.T) {
	const last = 1<<64 - 1
	for _, x := range []struct {
		a, b  api.Event
		lines string
	}{
		{write(1, 8, 1), write(0, 8, 1), "  write of 1 bytes at 0x8 by goroutine 1, event 2\n  write of 1 bytes at 0x8 by goroutine 0, event 3\n"},
		{read(1, 8, 1), write(0, 8, 1), "  read of 1 bytes at 0x8 by goroutine 1, event 2\n  write of 1 bytes at 0x8 by goroutine 0, event 3\n"},
		{write(0, 8, 1), read(1, 8, 1), "  write of 1 bytes at 0x8 by goroutine 0, event 2\n  read of 1 bytes at 0x8 by goroutine 1, event 3\n"},
		{write(0, 0, 1), write(1, 0, 64), "  write of 1 bytes at 0x0 by goroutine 0, event 2\n  write of 64 bytes at 0x0 by goroutine 1, event 3\n"},
		{read(65535, last, 1), write(0, last-63, 64), "  read of 1 bytes at 0xffffffffffffffff by goroutine 65535, event 2\n  write of 64 bytes at 0xffffffffffffffc0 by goroutine 0, event 3\n"},
		{write(1, 0x0123456789abcdef, 10), read(65535, 0x123456789abcdf0, 7), "  write of 10 bytes at 0x123456789abcdef by goroutine 1, event 2\n  read of 7 bytes at 0x123456789abcdf0 by goroutine 65535, event 3\n"},
		{write(1, 1<<63, 10), write(0, 1<<63-1, 12), "  write of 10 bytes at 0x8000000000000000 by goroutine 1, event 2\n  write of 12 bytes at 0x7fffffffffffffff by goroutine 0, event 3\n"},
		{write(1, 16, 16), write(0, 10, 16), "  write of 16 bytes at 0x10 by goroutine 1, event 2\n  write of 16 bytes at 0xa by goroutine 0, event 3\n"},
	} {
		reports(t, []api.Event{fork(1), fork(65535), x.a, x.b}, nil, "RACE 1: 1 times\n"+x.lines+total(1, 1, 0, 4))
	}
}

// TestManyGroups: more than nine groups, and groups of more than nine.
func TestManyGroups(t *testing.T) {
	run := []api.Event{fork(1)}
	want := ""
	for k := range 120 {
		frame := fmt.Sprint("f", k)
		// Both write these bytes often, unordered: each write of 0 races with the last one of 1.
		run = append(run, write(1, uint64(k), 1, frame))
		for range k%12 + 1 {
			run = append(run, write(0, uint64(k), 1, "main"))
		}
		place := len(run) - k%12 - 2
		want += fmt.Sprintf("RACE %d: %d times\n  write of 1 bytes at 0x%x by goroutine 1, event %d\n    \"%s\"\n  write of 1 bytes at 0x%x by goroutine 0, event %d\n    \"main\"\n", k+1, k%12+1, k, place, frame, k, place+1)
	}
	reports(t, run, nil, want+total(780, 120, 0, len(run)))
	reports(t, run, []string{"race:f*"}, total(0, 0, 780, len(run)))
	text, _ := report.Text(run, []string{"top:f*0", "both:f1", "race:f?"})
	if !strings.HasPrefix(text, "RACE 1: 2 times\n") || !strings.Contains(text, "RACE 108: 12 times\n") || !strings.HasSuffix(text, total(708, 108, 72, len(run))) {
		t.Errorf("P25.5: Text = %s", brief(text))
	}
}

// TestWhoIsFirst: in a group whose races have their stacks in unlike orders, the first one is told as it is. Groups
// are numbered as they stand, without those that are silenced.
func TestWhoIsFirst(t *testing.T) {
	run := []api.Event{fork(1), fork(2), write(1, 8, 1, "f"), write(0, 8, 1, "g"), write(1, 8, 1, "f"), write(2, 50, 1, "h"), write(0, 50, 1), write(1, 99, 1, "g"), write(0, 99, 1, "f")}
	first := "RACE 1: 3 times\n  write of 1 bytes at 0x8 by goroutine 1, event 2\n    \"f\"\n  write of 1 bytes at 0x8 by goroutine 0, event 3\n    \"g\"\n"
	second := ": 1 times\n  write of 1 bytes at 0x32 by goroutine 2, event 5\n    \"h\"\n  write of 1 bytes at 0x32 by goroutine 0, event 6\n"
	reports(t, run, nil, first+"RACE 2"+second+total(4, 2, 0, 9))
	reports(t, run, []string{"both:?"}, first+"RACE 2"+second+total(4, 2, 0, 9))
	reports(t, run, []string{"race:g"}, "RACE 1"+second+total(1, 1, 3, 9))
	reports(t, run, []string{"top:h"}, first+total(3, 1, 1, 9))
	reports(t, run, []string{"top:h", "top:f"}, total(0, 0, 4, 9))
	reports(t, run, []string{"both:*"}, "RACE 1"+second+total(1, 1, 3, 9))
}

// TestNoRaces: runs without one have the last line alone.
func TestNoRaces(t *testing.T) {
	for _, rules := range [][]string{nil, {}, {"race:*"}, {"top:x", "both:x"}} {
		reports(t, []api.Event{mark("main")}, rules, total(0, 0, 0, 1))
		reports(t, []api.Event{fork(1), read(1, 8, 4, "f"), read(0, 8, 4, "g")}, rules, total(0, 0, 0, 3))
		reports(t, []api.Event{fork(1), write(1, 8, 4, "f"), ev(0, api.Join, 0, 1), write(0, 8, 4, "g")}, rules, total(0, 0, 0, 4))
		reports(t, slices.Repeat([]api.Event{write(0, 8, 1)}, 12345), rules, total(0, 0, 0, 12345))
	}
	// No frame is none that a pattern matches.
	bare := []api.Event{fork(1), write(1, 8, 4), write(0, 8, 4)}
	text := "RACE 1: 1 times\n  write of 4 bytes at 0x8 by goroutine 1, event 1\n  write of 4 bytes at 0x8 by goroutine 0, event 2\n" + total(1, 1, 0, 3)
	reports(t, bare, []string{"race:*", "top:*", "both:*"}, text)
}

// someFrames are frames that patterns of someRules match or not.
var someFrames = []string{"main", "main.f", "f", "g", "", "fg", "a*b", "\xff\n", "\"\\", "net/http.serve", "f", "f"}

func someStack(r *rand.Rand) []string {
	var stack []string
	for range r.Intn(4) {
		stack = append(stack, someFrames[r.Intn(len(someFrames))])
	}
	return stack
}

// someRun is a run with stacks, that has races, mostly.
func someRun(r *rand.Rand, n int) []api.Event {
	kinds := [][]int{
		{api.Fork, api.Read, api.Write, api.Write},
		{api.Fork, api.Read, api.Write, api.Acquire, api.Release, api.Join},
		{api.Fork, api.Fork, api.Read, api.Write, api.Alloc, api.Free, api.Store, api.Load},
		samples.Kinds(),
	}[r.Intn(4)]
	run := samples.Moved(r.Intn, samples.Run(r.Intn, n, 2+r.Intn(4), kinds...))
	var stacks [][]string
	for range 1 + r.Intn(8) {
		stacks = append(stacks, someStack(r))
	}
	for k := range run {
		run[k].Stack = slices.Clone(stacks[r.Intn(len(stacks))])
	}
	return run
}

// someRules are rules that may be given.
func someRules(r *rand.Rand) []string {
	patterns := []string{"*", "main", "main*", "f", "*f", "g", "*.*", "?", "a**b", "*\n", "*\xff*", "*\\", "net/*.serve", "x", "ma*in", "f*g*"}
	var rules []string
	for range r.Intn(4) {
		rules = append(rules, beginnings[r.Intn(3)]+patterns[r.Intn(len(patterns))])
	}
	return rules
}

// TestRandomTexts: the reports of many runs with many rules.
func TestRandomTexts(t *testing.T) {
	r := rand.New(rand.NewSource(2531))
	told, silenced, mixed := 0, 0, 0
	for range 3000 {
		run, rules := someRun(r, 50), someRules(r)
		got, fault := report.Text(run, rules)
		want, _ := plainText(run, rules)
		if got != want || fault != api.OK {
			t.Fatalf("P25.5: Text(%s, %q) = %d\n%s\nwant\n%s", brief(run), rules, fault, got, want)
		}
		all, _, _ := race.All(run)
		quiet := 0
		for _, x := range all {
			if is, _ := report.Quiet(run, x, rules); is {
				quiet++
			}
		}
		told, silenced = told+len(all)-quiet, silenced+quiet
		if quiet > 0 && quiet < len(all) {
			mixed++
		}
	}
	if told < 5000 || silenced < 5000 || mixed < 300 {
		t.Errorf("the test met %d races that were told, %d that were silenced, %d runs with both", told, silenced, mixed)
	}
}

// TestOnlyShownBytes: whatever stands in frames, the report has no other line ends than those of its lines, and no
// other bytes than 32 to 126.
func TestOnlyShownBytes(t *testing.T) {
	r := rand.New(rand.NewSource(2532))
	for range 300 {
		run := []api.Event{fork(1)}
		frames := 0
		for k := range 1 + r.Intn(20) {
			e := write(k%2, 8, uint64(1+r.Intn(64)))
			for range r.Intn(5) {
				b := make([]byte, r.Intn(30))
				r.Read(b)
				e.Stack = append(e.Stack, string(b))
				frames++
			}
			run = append(run, e)
		}
		text, fault := report.Text(run, nil)
		want, _ := plainText(run, nil)
		if text != want || fault != api.OK {
			t.Fatalf("P25.5: Text(%s) = %d\n%s", brief(run), fault, text)
		}
		for k := range len(text) {
			if text[k] != '\n' && (text[k] < ' ' || text[k] > '~') {
				t.Fatalf("P25.6: the byte %d in %q", text[k], text)
			}
		}
		begins := []string{"RACE ", "  write of ", `    "`, "TOTAL: "}
		for line := range strings.Lines(text) {
			if !slices.ContainsFunc(begins, func(begin string) bool { return strings.HasPrefix(line, begin) }) || !strings.HasSuffix(line, "\n") {
				t.Fatalf("P25.6: the line %q", line)
			}
		}
	}
}

// TestTextIsOne: the same trace and rules have the same text each time.
func TestTextIsOne(t *testing.T) {
	r := rand.New(rand.NewSource(2533))
	for range 20 {
		run, rules := someRun(r, 60), append(someRules(r), "race:g", "top:f", "both:main")
		want, _ := report.Text(run, rules)
		for range 50 {
			if got, _ := report.Text(run, rules); got != want {
				t.Fatalf("P0.3: Text(%s, %q) is\n%s\nthen\n%s", brief(run), rules, want, got)
			}
		}
	}
}

// badRules are rules that may not be given.
func badRules() [][]string {
	return [][]string{{""}, {"race:*", "main"}, {"top:"}, slices.Repeat([]string{"race:*"}, 65)}
}

// TestRefusedTraces: what race.All refuses goes ahead of the rules; these are asked where there is no race, too.
func TestRefusedTraces(t *testing.T) {
	racy := []api.Event{fork(1), write(1, 8, 4, "f"), write(0, 8, 4, "g")}
	refuse := func(trace []api.Event, want api.Errno) {
		t.Helper()
		for _, rules := range append(badRules(), nil, []string{"race:*"}) {
			unreported(t, trace, rules, want)
		}
	}
	for _, f := range samples.Faults() {
		for place := range 5 {
			trace := append(slices.Clone(racy), mark(), ev(0, api.Release, 7, 0))
			trace[place] = f.Event
			refuse(trace, f.Errno)
		}
		refuse([]api.Event{ev(0, api.Release, 7, 0), f.Event}, f.Errno) // no run, ahead of it
	}
	for _, wrong := range samples.NoRuns() {
		refuse(append(slices.Clone(racy), wrong...), api.ErrBad)
		n := len(wrong) - 1
		trace := append(slices.Clone(racy), wrong[:n]...)
		text, _ := plainText(trace, nil)
		reports(t, trace, nil, text)
	}
	for _, trace := range [][]api.Event{nil, {mark()}, racy} {
		for _, rules := range badRules() {
			unreported(t, trace, rules, api.ErrRule)
		}
	}
}

// TestTooLarge: traces that are not within bounds.
func TestTooLarge(t *testing.T) {
	trace := slices.Repeat([]api.Event{mark()}, api.MaxEvents+1)
	for _, rules := range [][]string{nil, {""}} {
		unreported(t, trace, rules, api.ErrLarge)
	}
	reports(t, trace[1:], nil, total(0, 0, 0, api.MaxEvents))
	trace = nil
	for _, frame := range samples.Longest(api.MaxText/api.MaxSite + 1) {
		trace = append(trace, mark(frame))
	}
	unreported(t, trace, []string{"race:*"}, api.ErrLarge)
	unreported(t, trace, []string{"race:"}, api.ErrLarge)
	reports(t, trace[1:], nil, total(0, 0, 0, api.MaxText/api.MaxSite))
}
