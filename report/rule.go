package report

import (
	"strings"

	"hindsight/api"
)

// nowhere is the place that is answered where there is no fault.
const nowhere = -1

// set is a set of rules, of which there are at most MaxRules: a bit for each, by its place.
type set uint64

// view is which rules have a pattern that matches something of a stack.
type view struct {
	some set // a frame of it
	top  set // its innermost frame
}

// sight is a view of each of a race's two stacks.
type sight struct{ first, second view }

// anywhere are the rules whose pattern matches a frame of one of the stacks.
func (s sight) anywhere() set { return s.first.some | s.second.some }

// onTop are those whose pattern matches the innermost frame of one of them.
func (s sight) onTop() set { return s.first.top | s.second.top }

// inBoth are those whose pattern matches a frame of each of them.
func (s sight) inBoth() set { return s.first.some & s.second.some }

// questions are what rules ask of two stacks, by the words with which they begin.
func questions() map[string]func(sight) set {
	return map[string]func(sight) set{
		"race:": sight.anywhere,
		"top:":  sight.onTop,
		"both:": sight.inBoth,
	}
}

// rule is a rule that was read.
type rule struct {
	asks    func(sight) set
	pattern string
}

// readRules reads rules. Where they may not be given, it answers the place of the first one at fault.
func readRules(texts []string) ([]rule, int, api.Errno) {
	if len(texts) > api.MaxRules {
		return nil, api.MaxRules, api.ErrRule
	}
	var rules []rule
	table := questions()
	for place, text := range texts {
		r, is := readRule(text, table)
		if !is {
			return nil, place, api.ErrRule
		}
		rules = append(rules, r)
	}
	return rules, nowhere, api.OK
}

// readRule reads a rule that asks one of some questions, and tells whether it is one.
func readRule(text string, table map[string]func(sight) set) (rule, bool) {
	if len(text) > api.MaxQuery {
		return rule{}, false
	}
	for words, asks := range table {
		if pattern, begins := strings.CutPrefix(text, words); begins && pattern != "" {
			return rule{asks, pattern}, true
		}
	}
	return rule{}, false
}

// judge tells whether rules silence races.
type judge struct {
	rules []rule
	known map[string]set // of each frame that was met, the rules whose pattern matches it
}

func newJudge(rules []rule) judge {
	return judge{rules, map[string]set{}}
}

// silences tells whether one of the rules silences a race of events with these stacks.
func (j judge) silences(first, second []string) bool {
	s := sight{j.look(first), j.look(second)}
	for place, r := range j.rules {
		if r.asks(s)>>place&1 == 1 {
			return true
		}
	}
	return false
}

// look is the view of a stack.
func (j judge) look(stack []string) view {
	var v view
	for depth, frame := range stack {
		fitting := j.fitting(frame)
		if depth == 0 {
			v.top = fitting
		}
		v.some |= fitting
	}
	return v
}

// fitting are the rules whose pattern matches a frame. Many stacks have the same frames, so each is matched once.
func (j judge) fitting(frame string) set {
	fitting, known := j.known[frame]
	if known {
		return fitting
	}
	for place, r := range j.rules {
		if Match(r.pattern, frame) {
			fitting |= 1 << place
		}
	}
	j.known[frame] = fitting
	return fitting
}
