package query_test

import (
	"fmt"
	"math/rand"
	"strings"
	"testing"

	"hindsight/api"
	"hindsight/query"
	"hindsight/samples"
)

// someText is a text of few bytes, often of such as are told by a backslash.
func someText(r *rand.Rand) string {
	if r.Intn(4) == 0 {
		return []string{"", "f", "main", "b", "cab"}[r.Intn(5)]
	}
	b := make([]byte, r.Intn(5))
	for k := range b {
		b[k] = "f\"\\\n\t\r\x00\xff~ ab"[r.Intn(12)]
	}
	return string(b)
}

// someToken is a text as a token, in one of the ways to write it.
func someToken(r *rand.Rand, text string) string {
	token := `"`
	for k := range len(text) {
		sign := text[k : k+1]
		short := plainText(sign)
		switch {
		case r.Intn(3) == 0:
			token += fmt.Sprintf(`\x%02x`, text[k])
		case r.Intn(2) == 0 && !strings.Contains("\"\\\n", sign):
			token += sign
		default:
			token += short[1 : len(short)-1]
		}
	}
	return token + `"`
}

// someNumber is a number in one of the ways to write it, often one that events have.
func someNumber(r *rand.Rand) string {
	n := []uint64{0, 1, 2, 7, 16, 1 << 63, 1<<64 - 1, r.Uint64() >> r.Intn(64)}[r.Intn(8)]
	return fmt.Sprintf([]string{"%d", "%d", "0x%x", "00%d", "0x00%x"}[r.Intn(5)], n)
}

// someAtom is an atom's tokens.
func someAtom(r *rand.Rand) []string {
	switch r.Intn(5) {
	case 0:
		return []string{[]string{"all", "none", "access", "sync"}[r.Intn(4)]}
	case 1:
		return []string{"kind", []string{"=", "!="}[r.Intn(2)], names[1+r.Intn(22)]}
	case 2:
		list := []string{"kind", "in", "("}
		for range r.Intn(4) {
			list = append(list, names[1+r.Intn(22)], ",")
		}
		return append(list, names[1+r.Intn(22)], ")")
	case 3:
		return []string{[]string{"leaf", "root", "site"}[r.Intn(3)], []string{"=", "!=", "~", "!~"}[r.Intn(4)], someToken(r, someText(r))}
	}
	return []string{[]string{"g", "obj", "arg", "at", "depth"}[r.Intn(5)], []string{"=", "!=", "<", "<=", ">", ">="}[r.Intn(6)], someNumber(r)}
}

// someQuery is a query's tokens, of at most so many parts in one another.
func someQuery(r *rand.Rand, depth int) []string {
	if depth == 0 {
		return someAtom(r)
	}
	switch r.Intn(6) {
	case 0:
		return append([]string{"not"}, someQuery(r, depth-1)...)
	case 1:
		return append(append([]string{"("}, someQuery(r, depth-1)...), ")")
	case 2, 3, 4:
		word := []string{"and", "or"}[r.Intn(2)]
		list := someQuery(r, depth-1)
		for range 1 + r.Intn(2) {
			list = append(append(list, word), someQuery(r, depth-1)...)
		}
		return list
	}
	return someAtom(r)
}

// spread are tokens as a text, with blanks of any sort between them, and mostly none where none are needed.
func spread(r *rand.Rand, tokens []string) string {
	text := ""
	for _, token := range tokens {
		for range r.Intn(3) {
			text += []string{" ", " ", "\t", "\n"}[r.Intn(4)]
		}
		const letters = "abcdefghijklmnopqrstuvwxyz0123456789"
		if text != "" && strings.Contains(letters, text[len(text)-1:]) && strings.Contains(letters, token[:1]) {
			text += " "
		}
		text += token
	}
	return text
}

// TestQueries: queries of all sorts, written in many ways, held against the plain reading.
func TestQueries(t *testing.T) {
	r, all := rand.New(rand.NewSource(2401)), crowd()
	var list []api.Event
	for _, x := range all {
		list = append(list, x.Event)
	}
	for range 4000 {
		text := spread(r, someQuery(r, r.Intn(5)))
		wrong := holds(t, text, all)
		if q, _, _ := query.Compile(text); wrong == api.OK {
			asked(t, q, list)
		}
		if wrong != api.OK && wrong != api.ErrNest && wrong != api.ErrLarge {
			t.Errorf("%s: %d", brief(text), wrong)
		}
		if t.Failed() {
			t.FailNow()
		}
	}
}

// edited is a text changed a little, mostly by what queries are made of.
func edited(r *rand.Rand, text string) string {
	for range 1 + r.Intn(3) {
		at := r.Intn(len(text) + 1)
		to := min(len(text), at+r.Intn(3))
		switch r.Intn(4) {
		case 0:
			text = text[:at] + text[to:]
		case 1:
			text = text[:at] + tokens[r.Intn(len(tokens))] + text[at:]
		case 2:
			text = text[:at] + " " + tokens[r.Intn(len(tokens))] + " " + text[to:]
		case 3:
			text = text[:at] + string([]byte{byte(r.Intn(256))}) + text[to:]
		}
	}
	return text
}

// TestDamagedQueries: queries changed a little, held against the plain reading.
func TestDamagedQueries(t *testing.T) {
	r, seen := rand.New(rand.NewSource(2402)), samples.Seen{}
	for range 150000 {
		seen[holds(t, edited(r, spread(r, someQuery(r, r.Intn(4)))), few)]++
		if t.Failed() {
			t.FailNow()
		}
	}
	if rare := seen.Rare(api.OK, api.ErrSign, api.ErrOver, api.ErrWord, api.ErrType, api.ErrTrail); len(rare) > 0 {
		t.Errorf("seldom met: %v", rare)
	}
}

// TestAnyTokens: rows of tokens without order, and of bytes, deep ones among them.
func TestAnyTokens(t *testing.T) {
	r, seen := rand.New(rand.NewSource(2403)), samples.Seen{}
	for range 100000 {
		text := ""
		for range r.Intn(12) {
			if text += tokens[r.Intn(len(tokens))]; r.Intn(2) == 0 {
				text += " "
			}
		}
		if r.Intn(2) == 0 {
			for range 25 + r.Intn(10) {
				text = []string{"(", "not ", "not(", "(("}[r.Intn(4)] + text
			}
		}
		seen[holds(t, text, few)]++
		b := make([]byte, r.Intn(9))
		r.Read(b)
		holds(t, string(b), few)
		if t.Failed() {
			t.FailNow()
		}
	}
	if rare := seen.Rare(api.ErrSign, api.ErrOver, api.ErrWord, api.ErrType, api.ErrNest, api.ErrTrail); len(rare) > 0 {
		t.Errorf("seldom met: %v", rare)
	}
}

// choice is what a text's query chooses of a crowd.
func choice(t *testing.T, text string, all []placed) string {
	t.Helper()
	q, at, fault := query.Compile(text)
	if fault != api.OK {
		t.Fatalf("P24.1: %s: %d, %d", brief(text), at, fault)
	}
	chosen := make([]byte, len(all))
	for k, x := range all {
		chosen[k] = '-'
		if q.Match(x.Event, x.at) {
			chosen[k] = '+'
		}
	}
	return string(chosen)
}

// TestLaws: of De Morgan, and of not, and, or and brackets, each against what its parts choose.
func TestLaws(t *testing.T) {
	r, all := rand.New(rand.NewSource(2405)), crowd()
	for range 1500 {
		a, b, c := spread(r, someQuery(r, r.Intn(3))), spread(r, someQuery(r, r.Intn(3))), spread(r, someQuery(r, r.Intn(2)))
		put := func(form string) string {
			return choice(t, strings.NewReplacer("A", "("+a+")", "B", "("+b+")", "C", "("+c+")").Replace(form), all)
		}
		for _, law := range [][2]string{
			{"not (A and B)", "not A or not B"},
			{"not (A or B)", "not A and not B"},
			{"not (A or B or C)", "not A and not B and not C"},
			{"not (A and B and C)", "not A or not B or not C"},
			{"not not A", "A"},
			{"(A)", "A"},
			{"not A", "not (not not A)"},
			{"A and B", "B and A"},
			{"A or B", "B or A"},
			{"A and (B and C)", "A and B and C"},
			{"A or (B or C)", "(A or B) or C"},
			{"A and (B or C)", "A and B or A and C"},
			{"A or B and C", "(A or B) and (A or C)"},
			{"A and none", "none"},
			{"A or all", "all"},
			{"A or none", "A and all"},
			{"A and not A", "none"},
			{"A or not A", "not none"},
		} {
			if put(law[0]) != put(law[1]) {
				t.Fatalf("P24.5: %s is not %s, of A %s, B %s, C %s", law[0], law[1], a, b, c)
			}
		}
		and, or, not := put("A and B and C"), put("A or B or C"), put("not A")
		for k := 0; k < len(all); k += 10 {
			inA, inB, inC := choice(t, a, all[k:k+1]) == "+", choice(t, b, all[k:k+1]) == "+", choice(t, c, all[k:k+1]) == "+"
			if (and[k] == '+') != (inA && inB && inC) || (or[k] == '+') != (inA || inB || inC) || (not[k] == '+') == inA {
				t.Fatalf("P24.5: of A %s, B %s, C %s at %d, %v: and %c, or %c, not %c", a, b, c, all[k].at, all[k].Event, and[k], or[k], not[k])
			}
		}
	}
}

// TestOneTextOneChoice: two texts whose queries have one canonical text choose the same.
func TestOneTextOneChoice(t *testing.T) {
	all, chosen, met := crowd(), map[string]string{}, 0
	see := func(text string) {
		q, _, fault := query.Compile(text)
		if fault != api.OK {
			return
		}
		now := choice(t, text, all)
		before, is := chosen[q.Text()]
		if is && before != now {
			t.Fatalf("P24.4: another text whose canonical one is %s too chooses otherwise: %s", q.Text(), brief(text))
		}
		if is {
			met++
		}
		chosen[q.Text()] = now
	}
	for _, list := range samples.AllLists(6, "(", ")", "not", "and", "or", "access", "sync") {
		see(strings.Join(list, " "))
	}
	r := rand.New(rand.NewSource(2406))
	for range 2000 {
		list := someQuery(r, 1+r.Intn(3))
		see(spread(r, list))
		see(spread(r, list))
		see(spread(r, append(append([]string{"("}, list...), ")")))
	}
	if met < 2000 || len(chosen) < 1000 {
		t.Errorf("the test met %d texts of %d queries only", met, len(chosen))
	}
}
