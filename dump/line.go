package dump

import (
	"errors"
	"math"
	"strconv"
	"strings"

	"hindsight/api"
	"hindsight/event"
)

// errLine says of a line, of a word, or of another part of a line, that nothing is written so.
var errLine = errors.New("no line")

// refusal is what is wrong with the event that a line tells.
type refusal struct{ fault api.Errno }

func (r refusal) Error() string {
	return "no good event: " + strconv.Itoa(int(r.fault))
}

// errnoOf is what a call answers where reading came to this error.
func errnoOf(err error) api.Errno {
	var refused refusal
	switch {
	case errors.Is(err, errLine):
		return api.ErrLine
	case errors.As(err, &refused):
		return refused.fault
	}
	return api.OK
}

// appendLine puts a good event's line behind b.
func appendLine(b []byte, e api.Event) []byte {
	name, _ := event.Name(e.Kind)
	b = strconv.AppendInt(b, int64(e.G), 10)
	b = append(b, ' ')
	b = append(b, name...)
	b = append(b, " 0x"...)
	b = strconv.AppendUint(b, e.Obj, 16)
	b = append(b, ' ')
	b = strconv.AppendUint(b, e.Arg, 10)
	for _, frame := range e.Stack {
		b = append(b, ' ')
		b = appendWord(b, frame)
	}
	return b
}

// readEndedLine reads a line with its end.
func readEndedLine(s string) (api.Event, error) {
	line, ended := strings.CutSuffix(s, "\n")
	if !ended {
		return api.Event{}, errLine
	}
	return readLine(line)
}

// readLine reads a good event's line.
func readLine(s string) (api.Event, error) {
	head, words := s, ""
	if at := strings.Index(s, ` "`); at >= 0 {
		head, words = s[:at], s[at:]
	}
	parts := strings.SplitN(head, " ", 5) // a fifth one is one too many, whatever stands in it
	if len(parts) != 4 {
		return api.Event{}, errLine
	}
	g, noG := readNumber(parts[0], 10, math.MaxInt)
	kind, noKind := readKind(parts[1])
	obj, noObj := readObj(parts[2])
	arg, noArg := readNumber(parts[3], 10, math.MaxUint64)
	stack, noStack := readStack(words)
	if err := errors.Join(noG, noKind, noObj, noArg, noStack); err != nil {
		return api.Event{}, err
	}
	e := api.Event{G: int(g), Kind: kind, Obj: obj, Arg: arg, Stack: stack}
	if fault := event.Check(e); fault != api.OK {
		return api.Event{}, refusal{fault}
	}
	return e, nil
}

// readNumber reads a number up to the greatest one that may be.
func readNumber(digits string, base int, most uint64) (uint64, error) {
	n, err := strconv.ParseUint(digits, base, 64)
	if err != nil || n > most || strconv.FormatUint(n, base) != digits {
		return 0, errLine
	}
	return n, nil
}

func readKind(name string) (int, error) {
	kind, fault := event.Kind(name)
	if fault != api.OK {
		return 0, errLine
	}
	return kind, nil
}

func readObj(s string) (uint64, error) {
	digits, marked := strings.CutPrefix(s, "0x")
	if !marked {
		return 0, errLine
	}
	return readNumber(digits, 16, math.MaxUint64)
}

// readStack reads frames, each a word with a blank ahead of it.
func readStack(words string) ([]string, error) {
	var stack []string
	for words != "" {
		behind, spaced := strings.CutPrefix(words, " ")
		word, err := strconv.QuotedPrefix(behind)
		if !spaced || err != nil {
			return nil, errLine
		}
		frame, err := readWord(word)
		if err != nil {
			return nil, err
		}
		// One frame too many tells as much as all of them.
		if len(stack) <= api.MaxDepth {
			stack = append(stack, frame)
		}
		words = behind[len(word):]
	}
	return stack, nil
}
