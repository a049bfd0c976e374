package report_test

import (
	"math"
	"slices"
	"strings"
	"testing"

	"hindsight/api"
	"hindsight/report"
	"hindsight/samples"
)

// beginnings are the words with which rules begin.
var beginnings = []string{"race:", "top:", "both:"}

// wrongRules are texts that are no rules.
var wrongRules = []string{"", "x", ":", ":x", "*", "main", "race", "top", "both", "race:", "top:", "both:", "rac:x", "race x", "racex:", "ace:x", "Race:x", "RACE:x", "tOp:x", "Both:x", "botH:x", " race:x", "\ttop:x", "\nboth:x", "race :x", "top\x00:x", "xrace:x", "races:x", "stop:x", "top;x", "all:x", "*:x", "race*x", "\xffrace:x", "race\uff1ax", "none:x"}

func TestRulesExamples(t *testing.T) {
	faulty(t, nil, -1, api.OK)
	faulty(t, []string{}, -1, api.OK)
	faulty(t, []string{"race:main", "top:*"}, -1, api.OK)
	faulty(t, []string{"race:"}, 0, api.ErrRule)
	faulty(t, []string{"main"}, 0, api.ErrRule)
	faulty(t, []string{"Race:x"}, 0, api.ErrRule)
	faulty(t, []string{"race:x", ""}, 1, api.ErrRule)
	faulty(t, slices.Repeat([]string{"race:x"}, 65), 64, api.ErrRule)
}

// TestWrongRules: each alone, and ahead of, between and behind good ones; the first one counts.
func TestWrongRules(t *testing.T) {
	for _, wrong := range wrongRules {
		faulty(t, []string{wrong}, 0, api.ErrRule)
		faulty(t, []string{wrong, "race:x"}, 0, api.ErrRule)
		faulty(t, []string{"top:x", "both:x", wrong, "race:x"}, 2, api.ErrRule)
		faulty(t, []string{"both:x", wrong, "", wrong}, 1, api.ErrRule)
	}
}

// TestSizesOfRules: no byte behind the beginning, one, just MaxQuery bytes in all, one more, very many.
func TestSizesOfRules(t *testing.T) {
	for _, words := range beginnings {
		faulty(t, []string{words}, 0, api.ErrRule)
		full := words + strings.Repeat("x", api.MaxQuery-len(words))
		faulty(t, []string{full}, -1, api.OK)
		faulty(t, []string{full + "x"}, 0, api.ErrRule)
		faulty(t, []string{full, full, full + "*"}, 2, api.ErrRule)
		faulty(t, []string{words + strings.Repeat("*", 1<<24)}, 0, api.ErrRule)
		faulty(t, []string{words + strings.Repeat("*", api.MaxQuery-len(words))}, -1, api.OK)
		for b := range 256 {
			faulty(t, []string{words + string([]byte{byte(b)})}, -1, api.OK)
		}
		for _, other := range beginnings {
			faulty(t, []string{words + other, words + other + "x"}, -1, api.OK)
		}
	}
}

// TestBeginningsByByte: each beginning with one byte changed, taken out, or put in.
func TestBeginningsByByte(t *testing.T) {
	for _, words := range beginnings {
		for k := range len(words) {
			for b := range 256 {
				sign := string([]byte{byte(b)})
				for _, text := range []string{words[:k] + sign + words[k+1:] + "x", words[:k] + sign + words[k:] + "x", words[:k] + words[k+1:] + sign} {
					place, want := plainRules([]string{text})
					faulty(t, []string{text}, place, want)
				}
			}
		}
	}
}

// TestManyRules: MaxRules of them and one more, with and without wrong ones among them.
func TestManyRules(t *testing.T) {
	var rules []string
	for k := range api.MaxRules {
		rules = append(rules, beginnings[k%3]+strings.Repeat("x", 1+k))
	}
	faulty(t, rules, -1, api.OK)
	faulty(t, rules[1:], -1, api.OK)
	for _, more := range []string{"race:x", "", "race:"} {
		faulty(t, append(slices.Clip(rules), more), 64, api.ErrRule)
		faulty(t, append([]string{more}, rules...), 64, api.ErrRule)
	}
	for place := range rules {
		wrong := slices.Clone(rules)
		wrong[place] = wrongRules[place%len(wrongRules)]
		faulty(t, wrong, place, api.ErrRule)
		faulty(t, append(wrong, "race:x"), 64, api.ErrRule)
		wrong[len(wrong)-1] = ""
		faulty(t, wrong, place, api.ErrRule)
	}
	faulty(t, make([]string, 65), 64, api.ErrRule)
	faulty(t, make([]string, 64), 0, api.ErrRule)
	faulty(t, slices.Repeat([]string{"race:x"}, 1<<20), 64, api.ErrRule)
}

// pair is a trace of two events with these stacks.
func pair(a, b []string) []api.Event { return marks(a, b) }

// TestWhatRulesAsk: the three beginnings, one by one.
func TestWhatRulesAsk(t *testing.T) {
	for _, x := range []struct {
		a, b            []string
		race, top, both bool // whether the rule with the pattern f* silences
	}{
		{nil, nil, false, false, false},
		{nil, []string{"f"}, true, true, false},
		{nil, []string{"g", "f"}, true, false, false},
		{[]string{"f"}, []string{"f"}, true, true, true},
		{[]string{"f", "main"}, []string{"g", "main"}, true, true, false},
		{[]string{"g", "f"}, []string{"g", "h", "fx"}, true, false, true},
		{[]string{"g", "f"}, []string{"f", "g"}, true, true, true},
		{[]string{"g"}, []string{"h"}, false, false, false},
		{[]string{""}, []string{"gf"}, false, false, false},
		{[]string{"gf", "F"}, []string{"", ""}, false, false, false},
		{[]string{"g", "f", "g"}, []string{"g", "g", "g"}, true, false, false},
	} {
		for _, trace := range [][]api.Event{pair(x.a, x.b), pair(x.b, x.a)} {
			for k, want := range []bool{x.race, x.top, x.both} {
				hushes(t, trace, at(0, 1), []string{beginnings[k] + "f*"}, want, api.OK)
				hushes(t, trace, at(0, 1), []string{"race:x", beginnings[k] + "f*", "both:y"}, want, api.OK)
			}
			hushes(t, trace, at(0, 1), nil, false, api.OK)
		}
	}
}

// TestEmptyFrames: a frame of no bytes is one, of which a star is a match; no frame is none.
func TestEmptyFrames(t *testing.T) {
	for _, x := range []struct {
		a, b []string
		want [3]bool // of race:*, top:*, both:*
	}{
		{nil, nil, [3]bool{}},
		{[]string{}, nil, [3]bool{}},
		{[]string{""}, nil, [3]bool{true, true, false}},
		{[]string{""}, []string{"", ""}, [3]bool{true, true, true}},
		{[]string{"x"}, []string{}, [3]bool{true, true, false}},
		{[]string{"x"}, []string{""}, [3]bool{true, true, true}},
	} {
		for k, words := range beginnings {
			hushes(t, pair(x.a, x.b), at(0, 1), []string{words + "*"}, x.want[k], api.OK)
			hushes(t, pair(x.a, x.b), at(0, 1), []string{words + "**"}, x.want[k], api.OK)
		}
	}
}

// TestOneEvent: a race of an event with itself is not asked whether it is one.
func TestOneEvent(t *testing.T) {
	trace := pair([]string{"f", "main"}, []string{"g"})
	hushes(t, trace, at(0, 0), []string{"both:main"}, true, api.OK)
	hushes(t, trace, at(0, 0), []string{"top:main"}, false, api.OK)
	hushes(t, trace, at(0, 0), []string{"race:g"}, false, api.OK)
	hushes(t, trace, at(1, 1), []string{"top:g"}, true, api.OK)
}

// TestAllSmallStacks: all pairs of small stacks, with each rule of some, and pairs of these.
func TestAllSmallStacks(t *testing.T) {
	stacks := samples.AllLists(3, "a", "ab", "")
	patterns := []string{"a", "*", "a*", "*b", "b", "*a*"}
	var rules []string
	for _, words := range beginnings {
		for _, pattern := range patterns {
			rules = append(rules, words+pattern)
		}
	}
	seen := map[bool]int{}
	for _, a := range stacks {
		for _, b := range stacks {
			trace := pair(a, b)
			for k, rule := range rules {
				for _, list := range [][]string{{rule}, {rule, rules[(k+7)%len(rules)]}} {
					want, _ := plainQuiet(trace, at(0, 1), list)
					seen[want]++
					if got, fault := report.Quiet(trace, at(0, 1), list); got != want || fault != api.OK {
						t.Fatalf("P25.3: Quiet(%q, %q) with %q = %v, %d", a, b, list, got, fault)
					}
				}
			}
		}
	}
	if min(seen[true], seen[false]) < 10000 {
		t.Errorf("the test met %v", seen)
	}
}

// TestEachOfManyRules: of MaxRules rules one alone silences, wherever it stands.
func TestEachOfManyRules(t *testing.T) {
	trace := pair([]string{"f", "main"}, []string{"g", "main"})
	for place := range api.MaxRules {
		for _, rule := range []string{"race:*ain", "top:g", "both:m*", "top:f*"} {
			rules := slices.Repeat([]string{"race:x", "top:main", "both:f"}, 22)[:api.MaxRules]
			hushes(t, trace, at(0, 1), rules, false, api.OK)
			rules[place] = rule
			hushes(t, trace, at(0, 1), rules, true, api.OK)
		}
	}
}

// TestNoSuchEvents: each of the two places below 0, the last one, one more; the rules go ahead of that.
func TestNoSuchEvents(t *testing.T) {
	trace := []api.Event{fork(1), write(1, 8, 4, "g"), read(0, 8, 4, "f")}
	for _, n := range []int{0, 1, 2, 3} {
		for _, i := range []int{math.MinInt, -4, -1, 0, 1, 2, 3, 4, math.MaxInt} {
			for _, j := range []int{math.MinInt, -1, 0, 1, 2, 3, math.MaxInt} {
				want := api.OK
				if i < 0 || j < 0 || i >= n || j >= n {
					want = api.ErrEvent
					ungrouped(t, trace[:n], at(i, j))
					ungrouped(t, trace[:n], at(j, i))
				}
				for _, rules := range [][]string{nil, {"race:x"}} {
					hushes(t, trace[:n], at(i, j), rules, false, want)
				}
				hushes(t, trace[:n], at(i, j), []string{""}, false, api.ErrRule)
				hushes(t, trace[:n], at(i, j), []string{"race:*", "race:"}, false, api.ErrRule)
				hushes(t, trace[:n], at(i, j), slices.Repeat([]string{"race:*"}, 65), false, api.ErrRule)
			}
		}
	}
	hushes(t, nil, at(0, 0), nil, false, api.ErrEvent)
}

// TestStrangeTraces: neither the events nor whether the trace is a run are asked.
func TestStrangeTraces(t *testing.T) {
	deep := slices.Repeat([]string{"f"}, 100000)
	deep[99999] = "main"
	trace := []api.Event{{G: -7, Kind: 99, Stack: deep}, {G: 1 << 40, Kind: -1, Stack: []string{strings.Repeat("x", 1<<20)}}}
	hushes(t, trace, at(0, 1), []string{"race:mai*"}, true, api.OK)
	hushes(t, trace, at(0, 1), []string{"top:xxxx*xxx"}, true, api.OK)
	hushes(t, trace, at(0, 1), []string{"both:*xf*", "top:main"}, false, api.OK)
	groups(t, trace, []api.Race{at(0, 1), at(1, 0), at(0, 0)}, []api.Race{at(0, 1), at(0, 0)}, 2, 1)
}
