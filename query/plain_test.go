package query_test

import (
	"fmt"
	"math/big"
	"regexp"
	"slices"
	"strconv"
	"strings"
	"testing"

	"hindsight/api"
	"hindsight/event"
	"hindsight/query"
)

// The chapter's words, read plainly: the calls are held against these. The reading keeps two lists, one of what
// was read and one of the words and brackets that wait for what comes, and writes texts as it goes.

// How closely a part's text holds together.
const (
	tight = iota // an atom, or a not
	ands
	ors
)

// plain is a part of a query: its canonical text, and what it chooses.
type plain struct {
	text  string
	bond  int
	takes func(e api.Event, at int) bool
}

// plainToken is a token: of a word or a sign its text, of a text what it says, and of a number its number. One
// of these is told; none at the end.
type plainToken struct {
	at, next int
	word     string
	sign     string
	said     *string
	number   *big.Int
}

var (
	tokenForm = regexp.MustCompile(`\A[ \t\n]*(?:([a-z]+)|(0x[0-9a-f]*|[0-9]+)|("(?:[^"\\\n]|\\["\\nt]|\\x[0-9a-f]{2})*")|(!=|<=|>=|!~|[(),=<>~])|\z)`)
	blankForm = regexp.MustCompile(`\A[ \t\n]*`)
	escape    = regexp.MustCompile(`\\(?:["\\nt]|x[0-9a-f]{2})`)
)

// plainRead reads a token.
func plainRead(text string, from int) (plainToken, api.Errno) {
	t := plainToken{at: from + len(blankForm.FindString(text[from:]))}
	parts := tokenForm.FindStringSubmatch(text[from:])
	if parts == nil {
		return t, api.ErrSign
	}
	t.next, t.word, t.sign = from+len(parts[0]), parts[1], parts[4]
	if parts[2] != "" {
		digits, base := parts[2], 10
		if strings.HasPrefix(digits, "0x") {
			digits, base = digits[2:], 16
		}
		n, is := new(big.Int).SetString(digits, base)
		if !is {
			return t, api.ErrSign
		}
		if n.BitLen() > 64 {
			return t, api.ErrOver
		}
		t.number = n
	}
	if parts[3] != "" {
		said := escape.ReplaceAllStringFunc(parts[3][1:len(parts[3])-1], plainEscape)
		t.said = &said
	}
	return t, api.OK
}

// plainEscape is what a backslash and what stands behind it mean.
func plainEscape(s string) string {
	if n, err := strconv.ParseUint(strings.TrimPrefix(s, `\x`), 16, 8); s[1] == 'x' && err == nil {
		return string([]byte{byte(n)})
	}
	return strings.NewReplacer(`\n`, "\n", `\t`, "\t", `\"`, `"`, `\\`, `\`).Replace(s)
}

// plainText is a text as a token.
func plainText(s string) string {
	token := `"`
	for k := range len(s) {
		short := strings.IndexByte("\"\\\n\t", s[k])
		switch {
		case short >= 0:
			token += []string{`\"`, `\\`, `\n`, `\t`}[short]
		case s[k] >= 32 && s[k] <= 126:
			token += s[k : k+1]
		default:
			token += fmt.Sprintf(`\x%02x`, s[k])
		}
	}
	return token + `"`
}

// plainQuery is a query's text while it is read.
type plainQuery struct {
	text  string
	at    int
	parts []plain
	waits []string
}

// plainFault is where and why a text is no query.
type plainFault struct {
	at    int
	errno api.Errno
}

// token reads the next one; who asks for it says which it may be.
func (q *plainQuery) token() plainToken {
	t, wrong := plainRead(q.text, q.at)
	if wrong != api.OK {
		panic(plainFault{t.at, wrong})
	}
	q.at = t.next
	return t
}

// demand gives up, unless something is so.
func demand(is bool, t plainToken, wrong api.Errno) {
	if !is {
		panic(plainFault{t.at, wrong})
	}
}

// plainCompile is what Compile answers: the canonical text, what is chosen, and the fault.
func plainCompile(text string) (p plain, at int, wrong api.Errno) {
	if len(text) > api.MaxQuery {
		return plain{}, 0, api.ErrLarge
	}
	defer func() {
		if f, is := recover().(plainFault); is {
			p, at, wrong = plain{}, f.at, f.errno
		}
	}()
	q := plainQuery{text: text}
	for more := true; more; {
		q.operand()
		more = q.behind()
	}
	return q.parts[0], -1, api.OK
}

// operand reads brackets that open, nots, and an atom.
func (q *plainQuery) operand() {
	for {
		t := q.token()
		if t.sign != "(" && t.word != "not" {
			q.parts = append(q.parts, q.atom(t))
			q.deny()
			return
		}
		open := 0
		for _, w := range q.waits {
			if w == "(" || w == "not" {
				open++
			}
		}
		demand(open < api.MaxNest, t, api.ErrNest)
		q.waits = append(q.waits, t.sign+t.word)
	}
}

// behind reads what stands behind an operand, and tells whether another one comes.
func (q *plainQuery) behind() bool {
	for {
		t := q.token()
		inBrackets := slices.Contains(q.waits, "(")
		switch {
		case t.word == "and":
			q.join("and")
			q.waits = append(q.waits, "and")
			return true
		case t.word == "or":
			q.join("and", "or")
			q.waits = append(q.waits, "or")
			return true
		case t.sign == ")" && inBrackets:
			q.join("and", "or")
			q.waits = q.waits[:len(q.waits)-1]
			q.deny()
		case inBrackets:
			demand(false, t, api.ErrWord)
		default:
			demand(t.at == len(q.text), t, api.ErrTrail)
			q.join("and", "or")
			return false
		}
	}
}

// deny denies the last part as often as a not waits for it.
func (q *plainQuery) deny() {
	for len(q.waits) > 0 && q.waits[len(q.waits)-1] == "not" {
		q.waits = q.waits[:len(q.waits)-1]
		last := &q.parts[len(q.parts)-1]
		of := *last
		*last = plain{"not " + bracketed(of, tight), tight, func(e api.Event, at int) bool { return !of.takes(e, at) }}
	}
}

// bracketed is a part's text, in brackets if it does not hold together as closely as that.
func bracketed(p plain, bond int) string {
	if p.bond > bond {
		return "(" + p.text + ")"
	}
	return p.text
}

// join joins the last two parts as long as one of some words waits for that.
func (q *plainQuery) join(words ...string) {
	for len(q.waits) > 0 && slices.Contains(words, q.waits[len(q.waits)-1]) {
		word := q.waits[len(q.waits)-1]
		q.waits = q.waits[:len(q.waits)-1]
		a, b := q.parts[len(q.parts)-2], q.parts[len(q.parts)-1]
		q.parts = q.parts[:len(q.parts)-2]
		if word == "and" {
			q.parts = append(q.parts, plain{bracketed(a, ands) + " and " + bracketed(b, ands), ands, func(e api.Event, at int) bool {
				return a.takes(e, at) && b.takes(e, at)
			}})
		} else {
			q.parts = append(q.parts, plain{a.text + " or " + b.text, ors, func(e api.Event, at int) bool {
				return a.takes(e, at) || b.takes(e, at)
			}})
		}
	}
}

// atom reads an atom that begins with a token.
func (q *plainQuery) atom(t plainToken) plain {
	switch t.word {
	case "all":
		return plain{"all", tight, func(api.Event, int) bool { return true }}
	case "none":
		return plain{"none", tight, func(api.Event, int) bool { return false }}
	case "access":
		return plain{"access", tight, func(e api.Event, _ int) bool { return e.Kind == 1 || e.Kind == 2 }}
	case "sync":
		return plain{"sync", tight, func(e api.Event, _ int) bool {
			return e.Kind >= 3 && e.Kind <= 8 || e.Kind >= 10 && e.Kind <= 19
		}}
	case "g", "obj", "arg", "at", "depth":
		return q.numbers(t.word)
	case "leaf", "root", "site":
		return q.texts(t.word)
	case "kind":
		return q.kinds()
	}
	demand(false, t, api.ErrWord)
	return plain{}
}

// sign reads the sign behind a field.
func (q *plainQuery) sign(may ...string) string {
	t := q.token()
	demand(t.sign != "", t, api.ErrWord)
	demand(slices.Contains(may, t.sign), t, api.ErrType)
	return t.sign
}

func (q *plainQuery) numbers(field string) plain {
	sign := q.sign("=", "!=", "<", "<=", ">", ">=")
	t := q.token()
	demand(t.number != nil, t, api.ErrType)
	return plain{field + " " + sign + " " + t.number.String(), tight, func(e api.Event, at int) bool {
		have := map[string]*big.Int{
			"g": big.NewInt(int64(e.G)), "at": big.NewInt(int64(at)), "depth": big.NewInt(int64(len(e.Stack))),
			"obj": new(big.Int).SetUint64(e.Obj), "arg": new(big.Int).SetUint64(e.Arg),
		}[field].Cmp(t.number)
		return map[string]bool{"=": have == 0, "!=": have != 0, "<": have < 0, "<=": have <= 0, ">": have > 0, ">=": have >= 0}[sign]
	}}
}

func (q *plainQuery) texts(field string) plain {
	sign := q.sign("=", "!=", "~", "!~")
	t := q.token()
	demand(t.said != nil, t, api.ErrType)
	return plain{field + " " + sign + " " + plainText(*t.said), tight, func(e api.Event, _ int) bool {
		is, has := false, false
		for _, frame := range plainFrames(field, e.Stack) {
			is = is || frame == *t.said
			has = has || strings.Contains(frame, *t.said)
		}
		return map[string]bool{"=": is, "!=": !is, "~": has, "!~": !has}[sign]
	}}
}

func plainFrames(field string, stack []string) []string {
	if field == "site" {
		return stack
	}
	if len(stack) == 0 {
		return []string{""}
	}
	return map[string][]string{"leaf": {stack[0]}, "root": {stack[len(stack)-1]}}[field]
}

func (q *plainQuery) kinds() plain {
	t := q.token()
	if t.word != "in" {
		q.at = t.at
		sign := q.sign("=", "!=")
		kind, name := q.kind()
		return plain{"kind " + sign + " " + name, tight, func(e api.Event, _ int) bool { return (e.Kind == kind) == (sign == "=") }}
	}
	t = q.token()
	demand(t.sign == "(", t, api.ErrWord)
	var numbers []int
	var names []string
	for t.sign != ")" {
		kind, name := q.kind()
		numbers, names = append(numbers, kind), append(names, name)
		t = q.token()
		demand(t.sign == "," || t.sign == ")", t, api.ErrWord)
	}
	return plain{"kind in (" + strings.Join(names, ", ") + ")", tight, func(e api.Event, _ int) bool { return slices.Contains(numbers, e.Kind) }}
}

// names are the kinds' names, by their numbers.
var names = []string{1: "read", 2: "write", 3: "acquire", 4: "release", 5: "racquire", 6: "rrelease", 7: "fork", 8: "join", 9: "make", 10: "send", 11: "ack", 12: "recv", 13: "close", 14: "add", 15: "wait", 16: "once", 17: "load", 18: "store", 19: "swap", 20: "alloc", 21: "free", 22: "mark"}

func (q *plainQuery) kind() (int, string) {
	t := q.token()
	kind := slices.Index(names, t.word)
	demand(kind > 0, t, api.ErrWord)
	return kind, t.word
}

// brief is a text as messages show it.
func brief(s string) string {
	if len(s) > 300 {
		return fmt.Sprintf("%q .. (%d bytes)", s[:300], len(s))
	}
	return fmt.Sprintf("%q", s)
}

// refused fails if Compile takes a text, or answers another fault.
func refused(t *testing.T, text string, at int, wrong api.Errno) {
	t.Helper()
	if q, place, fault := query.Compile(text); q != nil || place != at || fault != wrong {
		t.Errorf("P24.1: Compile(%s) = %v, %d, %d, want none, %d, %d", brief(text), q != nil, place, fault, at, wrong)
	}
}

// compiled is the query of a text, of which the canonical text is told. That one's query has the same text.
func compiled(t *testing.T, text, canonical string) *query.Query {
	t.Helper()
	q, at, fault := query.Compile(text)
	if q == nil || at != -1 || fault != api.OK {
		t.Fatalf("P24.1: Compile(%s) = %v, %d, %d, want a query, -1, 0", brief(text), q != nil, at, fault)
	}
	if got := q.Text(); got != canonical {
		t.Errorf("P24.2: the Text of %s is %s, want %s", brief(text), brief(got), brief(canonical))
	}
	if len(canonical) > api.MaxQuery {
		refused(t, canonical, 0, api.ErrLarge)
		return q
	}
	again, at, fault := query.Compile(canonical)
	if again == nil || at != -1 || fault != api.OK || again.Text() != canonical {
		t.Errorf("P24.4: of the Text %s: %v, %d, %d, %s", brief(canonical), again != nil, at, fault, brief(again.Text()))
	}
	return q
}

// placed is an event at a place.
type placed struct {
	api.Event
	at int
}

// chooses holds Match of a query, and of its Text, against what is to be chosen.
func chooses(t *testing.T, q *query.Query, of []placed, takes func(e api.Event, at int) bool) {
	t.Helper()
	again, _, _ := query.Compile(q.Text())
	for _, x := range of {
		want := takes(x.Event, x.at)
		if got := q.Match(x.Event, x.at); got != want {
			t.Errorf("P24.3: %s at %d, %v: %v, want %v", brief(q.Text()), x.at, x.Event, got, want)
		}
		if again != nil && again.Match(x.Event, x.at) != want {
			t.Errorf("P24.4: the query of the Text %s at %d, %v: not %v", brief(q.Text()), x.at, x.Event, want)
		}
	}
}

// holds holds Compile of a text, and what its query answers of some events, against the plain reading. It
// answers the error.
func holds(t *testing.T, text string, of []placed) api.Errno {
	t.Helper()
	want, at, wrong := plainCompile(text)
	if wrong != api.OK {
		refused(t, text, at, wrong)
		return wrong
	}
	chooses(t, compiled(t, text, want.text), of, want.takes)
	return wrong
}

// asked holds Select and Count of a query against its Match.
func asked(t *testing.T, q *query.Query, list []api.Event) {
	t.Helper()
	var places []int
	var ticks []api.Tick
	for at, e := range list {
		if !q.Match(e, at) {
			continue
		}
		places = append(places, at)
		k, met := slices.BinarySearchFunc(ticks, e.G, func(tick api.Tick, g int) int { return big.NewInt(int64(tick.G)).Cmp(big.NewInt(int64(g))) })
		if !met {
			ticks = slices.Insert(ticks, k, api.Tick{G: e.G})
		}
		ticks[k].T++
	}
	if got := q.Select(list); !slices.Equal(got, places) {
		t.Errorf("P24.3: Select of %s: %v, want %v", brief(q.Text()), got, places)
	}
	if got := q.Count(list); !slices.Equal(got, ticks) {
		t.Errorf("P24.3: Count of %s: %v, want %v", brief(q.Text()), got, ticks)
	}
}

// TestNames: the plain reading's names are those of chapter 6.
func TestNames(t *testing.T) {
	for kind := 1; kind < 24; kind++ {
		name, fault := event.Name(kind)
		if fault == api.OK && name != names[kind] || (fault == api.OK) != (kind < len(names)) {
			t.Errorf("the kind %d is called %q", kind, name)
		}
	}
}
