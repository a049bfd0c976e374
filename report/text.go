package report

import (
	"strconv"
	"strings"

	"hindsight/api"
	"hindsight/event"
)

// sheet is a report while it is written.
type sheet struct{ text strings.Builder }

// written is the report of the races of a run.
func written(run []api.Event, races []api.Race, j judge) string {
	var s sheet
	told, groups := 0, 0
	firsts, counts := grouped(run, races)
	for k, r := range firsts {
		// A rule asks for the two stacks alone: it silences all of a group, or none.
		if j.silences(run[r.First].Stack, run[r.Second].Stack) {
			continue
		}
		groups++
		told += counts[k]
		s.line("RACE ", strconv.Itoa(groups), ": ", strconv.Itoa(counts[k]), " times")
		s.access(run, r.First)
		s.access(run, r.Second)
	}
	s.line("TOTAL: ", strconv.Itoa(told), " races in ", strconv.Itoa(groups), " groups, ", strconv.Itoa(len(races)-told), " silenced, ", strconv.Itoa(len(run)), " events")
	return s.text.String()
}

// line writes a line of some parts.
func (s *sheet) line(parts ...string) {
	for _, part := range parts {
		s.text.WriteString(part)
	}
	s.text.WriteByte('\n')
}

// access writes the lines of an access, which stands at a place of a run.
func (s *sheet) access(run []api.Event, place int) {
	e := run[place]
	name, _ := event.Name(e.Kind)
	s.line("  ", name, " of ", strconv.FormatUint(e.Arg, 10), " bytes at 0x", strconv.FormatUint(e.Obj, 16), " by goroutine ", strconv.Itoa(e.G), ", event ", strconv.Itoa(place))
	for _, frame := range e.Stack {
		s.line("    ", shown(frame))
	}
}

// shown is a text as it is shown.
func shown(text string) string {
	const digits = "0123456789abcdef"
	b := []byte{'"'}
	for k := range len(text) {
		switch c := text[k]; {
		case c == '"' || c == '\\':
			b = append(b, '\\', c)
		case c >= ' ' && c <= '~':
			b = append(b, c)
		default:
			b = append(b, '\\', 'x', digits[c>>4], digits[c&15])
		}
	}
	return string(append(b, '"'))
}
