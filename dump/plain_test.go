package dump_test

import (
	"fmt"
	"math"
	"math/big"
	"regexp"
	"slices"
	"strings"
	"testing"

	"hindsight/api"
	"hindsight/dump"
	"hindsight/event"
)

// The chapter's words, read plainly: the calls are held against these.

// tail are the least and the greatest byte behind the first one of a sequence, where nothing else is said.
var tail = [2]byte{0x80, 0xbf}

// sequences are the well-formed ones of RFC 3629: a row tells of each byte the least and the greatest.
var sequences = [][][2]byte{
	{{0x00, 0x7f}},
	{{0xc2, 0xdf}, tail},
	{{0xe0, 0xe0}, {0xa0, 0xbf}, tail},
	{{0xe1, 0xec}, tail, tail},
	{{0xed, 0xed}, {0x80, 0x9f}, tail},
	{{0xee, 0xef}, tail, tail},
	{{0xf0, 0xf0}, {0x90, 0xbf}, tail, tail},
	{{0xf1, 0xf3}, tail, tail, tail},
	{{0xf4, 0xf4}, {0x80, 0x8f}, tail, tail},
}

// plainSequence answers the sequence with which a string begins, and its number; none, if there is none.
func plainSequence(s string) (string, int) {
	for _, row := range sequences {
		if !begins(s, row) {
			continue
		}
		number := int(s[0])
		if len(row) > 1 {
			number &= 0x7f >> len(row)
		}
		for k := 1; k < len(row); k++ {
			number = number<<6 | int(s[k]&0x3f)
		}
		return s[:len(row)], number
	}
	return "", 0
}

// begins tells whether a string begins with a sequence of a row.
func begins(s string, row [][2]byte) bool {
	if len(s) < len(row) {
		return false
	}
	for k, r := range row {
		if s[k] < r[0] || s[k] > r[1] {
			return false
		}
	}
	return true
}

// plainDigits are the bytes of a string, each as two digits.
func plainDigits(s string) string {
	var b strings.Builder
	for k := range len(s) {
		b.WriteString(`\x`)
		b.WriteByte("0123456789abcdef"[s[k]/16])
		b.WriteByte("0123456789abcdef"[s[k]%16])
	}
	return b.String()
}

// plainQuote is the word of a string.
func plainQuote(s string) string {
	var word strings.Builder
	word.WriteByte('"')
	for at := 0; at < len(s); {
		sign, number := plainSequence(s[at:])
		short := strings.IndexByte("\\\"\n\r\t", s[at])
		switch {
		case sign == "":
			sign = s[at : at+1]
			word.WriteString(plainDigits(sign))
		case short >= 0:
			word.WriteString([]string{`\\`, `\"`, `\n`, `\r`, `\t`}[short])
		case number >= 32 && number <= 126 || number >= 160:
			word.WriteString(sign)
		default:
			word.WriteString(plainDigits(sign))
		}
		at += len(sign)
	}
	word.WriteByte('"')
	return word.String()
}

var escape = regexp.MustCompile(`\\(?:[\\"nrt]|x[0-9a-f]{2})`)

// plainUnquote is the string of which a text is the word, if it is one: what its escapes may mean, held against
// what would be written.
func plainUnquote(word string) (string, bool) {
	if len(word) < 2 {
		return "", false
	}
	s := escape.ReplaceAllStringFunc(word[1:len(word)-1], func(sign string) string {
		if short := strings.IndexByte(`\"nrt`, sign[1]); short >= 0 {
			return "\\\"\n\r\t"[short : short+1]
		}
		var b byte
		fmt.Sscanf(sign[2:], "%02x", &b)
		return string([]byte{b})
	})
	if plainQuote(s) != word {
		return "", false
	}
	return s, true
}

// plainLine is a good event's line.
func plainLine(e api.Event) string {
	name, _ := event.Name(e.Kind)
	line := fmt.Sprintf("%d %s 0x%x %d", e.G, name, e.Obj, e.Arg)
	for _, frame := range e.Stack {
		line += " " + plainQuote(frame)
	}
	return line
}

var (
	lineForm = regexp.MustCompile(`(?s)\A(0|[1-9][0-9]*) ([a-z]+) 0x(0|[1-9a-f][0-9a-f]*) (0|[1-9][0-9]*)((?: "(?:[^"\\]|\\.)*")*)\z`)
	wordForm = regexp.MustCompile(`(?s)"(?:[^"\\]|\\.)*"`)
)

// plainNumber is a number up to a greatest one.
func plainNumber(digits string, base int, most uint64) (uint64, bool) {
	n, is := new(big.Int).SetString(digits, base)
	if !is || n.Cmp(new(big.Int).SetUint64(most)) > 0 {
		return 0, false
	}
	return n.Uint64(), true
}

// plainRead is the event that a line tells, which need not be a good one; false, if it is no line.
func plainRead(s string) (api.Event, bool) {
	parts := lineForm.FindStringSubmatch(s)
	if parts == nil {
		return api.Event{}, false
	}
	g, isG := plainNumber(parts[1], 10, math.MaxInt)
	kind, fault := event.Kind(parts[2])
	obj, isObj := plainNumber(parts[3], 16, math.MaxUint64)
	arg, isArg := plainNumber(parts[4], 10, math.MaxUint64)
	if !isG || fault != api.OK || !isObj || !isArg {
		return api.Event{}, false
	}
	e := api.Event{G: int(g), Kind: kind, Obj: obj, Arg: arg}
	for _, word := range wordForm.FindAllString(parts[5], -1) {
		frame, is := plainUnquote(word)
		if !is {
			return api.Event{}, false
		}
		e.Stack = append(e.Stack, frame)
	}
	return e, true
}

// plainParseLine is what ParseLine answers.
func plainParseLine(s string) (api.Event, api.Errno) {
	e, is := plainRead(s)
	if !is {
		return api.Event{}, api.ErrLine
	}
	if fault := event.Check(e); fault != api.OK {
		return api.Event{}, fault
	}
	return e, api.OK
}

// plainDump is the text of a trace within bounds.
func plainDump(t []api.Event) string {
	var text strings.Builder
	for _, e := range t {
		text.WriteString(plainLine(e) + "\n")
	}
	return text.String()
}

// plainParse is what Parse answers of a text that is not too long.
func plainParse(s string) ([]api.Event, int, api.Errno) {
	lines := strings.Split(s, "\n")
	var t []api.Event
	for k, line := range lines[:len(lines)-1] {
		e, fault := plainParseLine(line)
		if fault != api.OK {
			return nil, k + 1, fault
		}
		t = append(t, e)
	}
	if lines[len(lines)-1] != "" {
		return nil, len(lines), api.ErrLine
	}
	if place, fault := event.Bounds(t); fault != api.OK {
		return nil, place + 1, fault
	}
	return t, 0, api.OK
}

// brief is a text as messages show it.
func brief(s string) string {
	if len(s) > 300 {
		return fmt.Sprintf("%q .. (%d bytes)", s[:300], len(s))
	}
	return fmt.Sprintf("%q", s)
}

func sameEvents(a, b []api.Event) bool { return slices.EqualFunc(a, b, event.Same) }

// quotes holds Quote of a string against a word, and Unquote of that against the string.
func quotes(t *testing.T, s, word string) {
	t.Helper()
	if got := dump.Quote(s); got != word {
		t.Errorf("P23.1: Quote(%s) = %s, want %s", brief(s), brief(got), brief(word))
	}
	if got, fault := dump.Unquote(word); got != s || fault != api.OK {
		t.Errorf("P23.7: Unquote(%s) = %s, %d, want %s", brief(word), brief(got), fault, brief(s))
	}
}

// noWord fails if Unquote takes a text.
func noWord(t *testing.T, s string) {
	t.Helper()
	if got, fault := dump.Unquote(s); got != "" || fault != api.ErrLine {
		t.Errorf("P23.2: Unquote(%s) = %s, %d, want none, %d", brief(s), brief(got), fault, api.ErrLine)
	}
}

// lines holds Line of a good event against a line, and ParseLine of that against the event.
func lines(t *testing.T, e api.Event, line string) {
	t.Helper()
	if got, fault := dump.Line(e); got != line || fault != api.OK {
		t.Errorf("P23.3: Line = %s, %d, want %s", brief(got), fault, brief(line))
	}
	parses(t, line, e, api.OK)
}

// parses holds ParseLine against an event and an error.
func parses(t *testing.T, s string, want api.Event, wrong api.Errno) {
	t.Helper()
	if got, fault := dump.ParseLine(s); !event.Same(got, want) || fault != wrong {
		t.Errorf("P23.4: ParseLine(%s) = %s, %d, want %s, %d", brief(s), brief(fmt.Sprint(got)), fault, brief(fmt.Sprint(want)), wrong)
	}
}

// wrong fails if ParseLine takes a line, or answers another error.
func wrong(t *testing.T, s string, want api.Errno) {
	t.Helper()
	parses(t, s, api.Event{}, want)
}

// dumps holds Dump of a trace against a text, and Parse of that against the trace.
func dumps(t *testing.T, trace []api.Event, text string) {
	t.Helper()
	if got, fault := dump.Dump(trace); got != text || fault != api.OK {
		t.Errorf("P23.5: Dump = %s, %d, want %s", brief(got), fault, brief(text))
	}
	if got, line, fault := dump.Parse(text); !sameEvents(got, trace) || line != 0 || fault != api.OK {
		t.Errorf("P23.6: Parse(%s) = %d events, %d, %d, want %d events", brief(text), len(got), line, fault, len(trace))
	}
}

// undumped fails if Dump takes a trace, or answers another error.
func undumped(t *testing.T, trace []api.Event, want api.Errno) {
	t.Helper()
	if got, fault := dump.Dump(trace); got != "" || fault != want {
		t.Errorf("P23.5: Dump = %s, %d, want none, %d", brief(got), fault, want)
	}
}

// unread fails if Parse takes a text, or answers another line or error.
func unread(t *testing.T, text string, line int, want api.Errno) {
	t.Helper()
	if got, at, fault := dump.Parse(text); len(got) != 0 || at != line || fault != want {
		t.Errorf("P23.6: Parse(%s) = %d events, %d, %d, want none, %d, %d", brief(text), len(got), at, fault, line, want)
	}
}
