package report_test

import (
	"slices"
	"strconv"
	"strings"
	"testing"
	"time"

	"hindsight/api"
	"hindsight/report"
	"hindsight/samples"
)

// inTime fails if a test of something large took much longer than it needs.
func inTime(t *testing.T, begun time.Time) {
	t.Helper()
	if took := time.Since(begun); took > 100*time.Second {
		t.Errorf("P0.1: it took %v", took)
	}
}

// TestMostRaces: as many events as a trace may have, each of the second half a race, all of them alike.
func TestMostRaces(t *testing.T) {
	defer inTime(t, time.Now())
	run := []api.Event{fork(1)}
	for len(run) < api.MaxEvents {
		run = append(run, write(1-len(run)/(api.MaxEvents/2), 8, 1, "f", "main"))
	}
	text, fault := report.Text(run, nil)
	last := strconv.Itoa(api.MaxEvents/2 - 1)
	if want := "RACE 1: 524288 times\n  write of 1 bytes at 0x8 by goroutine 1, event " + last + "\n    \"f\"\n    \"main\"\n  write of 1 bytes at 0x8 by goroutine 0, event 524288\n    \"f\"\n    \"main\"\n" + total(524288, 1, 0, api.MaxEvents); text != want || fault != api.OK {
		t.Errorf("P25.5: Text = %s, %d", brief(text), fault)
	}
	text, fault = report.Text(run, []string{"both:mai*"})
	if text != total(0, 0, 524288, api.MaxEvents) || fault != api.OK {
		t.Errorf("P25.5: Text = %s, %d", brief(text), fault)
	}
}

// TestMostGroups: many unlike stacks, each race a group of its own, with as many rules as there may be, of which none
// silences, or the last one some.
func TestMostGroups(t *testing.T) {
	defer inTime(t, time.Now())
	const n = 1 << 17
	names := samples.Numbered(1 << 10)
	run := []api.Event{fork(1)}
	for k := range n {
		run = append(run, write(1, uint64(k), 1, names[k%len(names)], names[k/len(names)], "main"), write(0, uint64(k), 1))
	}
	rules := slices.Repeat([]string{"race:" + strings.Repeat("*", api.MaxQuery-7) + "xx", "top:main", "both:*", "race:" + strings.Repeat("m*", 2045)}, 16)
	for _, x := range []struct {
		last           string
		told, silenced int
	}{{"top:main", n, 0}, {"race:\x00\x05", n - n/1024 - 1024 + 1, n/1024 + 1024 - 1}, {"race:main", 0, n}} {
		rules[63] = x.last
		text, fault := report.Text(run, rules)
		if !strings.HasSuffix(text, "\n"+total(x.told, x.told, x.silenced, len(run))) && text != total(0, 0, n, len(run)) || fault != api.OK || strings.Count(text, "\n") != 6*x.told+1 {
			t.Errorf("P25.5: with %q Text has %d lines and ends with %s, %d", x.last, strings.Count(text, "\n"), text[max(0, len(text)-200):], fault)
		}
	}
}

// TestLongestFrames: frames as long as they may be, on stacks as deep as they may be.
func TestLongestFrames(t *testing.T) {
	defer inTime(t, time.Now())
	frames := samples.Longest(api.MaxText / api.MaxSite)
	run := []api.Event{fork(1)}
	for k := range 1000 {
		run = append(run, write(1, uint64(k), 1, frames[16:32]...), write(0, uint64(k), 1, frames[32:48]...))
	}
	var rules []string
	for k := range api.MaxRules {
		rules = append(rules, beginnings[k%3]+strings.Repeat("*"+string([]byte{byte(k)}), 2000)+"*x")
	}
	text, fault := report.Text(run, rules)
	want := "RACE 1: 1000 times\n  write of 1 bytes at 0x0 by goroutine 1, event 1\n"
	for _, frame := range frames[16:32] {
		want += "    " + plainShown(frame) + "\n"
	}
	want += "  write of 1 bytes at 0x0 by goroutine 0, event 2\n"
	for _, frame := range frames[32:48] {
		want += "    " + plainShown(frame) + "\n"
	}
	if text != want+total(1000, 1, 0, len(run)) || fault != api.OK {
		t.Errorf("P25.5: Text has %d bytes, want %d, and %d", len(text), len(want), fault)
	}
	rules[63] = "race:" + strings.Repeat("\x2f*", 2045)
	if text, fault := report.Text(run, rules); text != total(0, 0, 1000, len(run)) || fault != api.OK {
		t.Errorf("P25.5: Text = %s, %d", brief(text[:100]), fault)
	}
}

// TestManyRaces: Group of many races, all alike or none, over many events; nothing is asked of these.
func TestManyRaces(t *testing.T) {
	defer inTime(t, time.Now())
	const n = 1 << 20
	trace := make([]api.Event, n+1)
	for k := range trace {
		trace[k].Stack = []string{strconv.Itoa(k % (n / 2)), "main"}
	}
	races := make([]api.Race, n)
	for k := range races {
		races[k] = at(k, k+1)
	}
	firsts, counts, fault := report.Group(trace, races)
	if !slices.Equal(firsts, races[:n/2]) || !slices.Equal(counts, slices.Repeat([]int{2}, n/2)) || fault != api.OK {
		t.Errorf("P25.4: Group = %d races, %d", len(firsts), fault)
	}
	for k := range races {
		races[k] = at(5, 9)
		if k%2 == 1 {
			races[k] = at(n/2+9, 5)
		}
	}
	if firsts, counts, fault := report.Group(trace, races); !slices.Equal(firsts, races[:1]) || !slices.Equal(counts, []int{n}) || fault != api.OK {
		t.Errorf("P25.4: Group = %v, %v, %d", brief(firsts), brief(counts), fault)
	}
	races[n-1] = at(5, n+1)
	ungrouped(t, trace, races...)
}
