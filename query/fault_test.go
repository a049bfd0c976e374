package query_test

import (
	"slices"
	"strings"
	"testing"

	"hindsight/api"
	"hindsight/samples"
)

// wrongs are texts that are no queries, with the place and the error of the first fault.
type wrongs []struct {
	text  string
	at    int
	errno api.Errno
}

func (w wrongs) hold(t *testing.T) {
	t.Helper()
	for _, x := range w {
		refused(t, x.text, x.at, x.errno)
		holds(t, x.text, nil)
	}
}

func TestFaultExamples(t *testing.T) {
	wrongs{
		{"a or b", 0, api.ErrWord},
		{"g = 1 or", 8, api.ErrWord},
		{"", 0, api.ErrWord},
		{"g = 1 1", 6, api.ErrTrail},
		{"(g = 1", 6, api.ErrWord},
		{"g ~ 1", 2, api.ErrType},
		{`leaf < "x"`, 5, api.ErrType},
		{`g = "x"`, 4, api.ErrType},
		{"g all", 2, api.ErrWord},
		{"kind = x", 7, api.ErrWord},
		{"kind < read", 5, api.ErrType},
		{"g = 18446744073709551616", 4, api.ErrOver},
		{`leaf = "x`, 7, api.ErrSign},
		{"g ? 1", 2, api.ErrSign},
		{"kind in ()", 9, api.ErrWord},
	}.hold(t)
}

// TestNoAtom: with what no atom begins, at each place where one is asked for.
func TestNoAtom(t *testing.T) {
	for _, ahead := range []string{"", "not ", "(", "((", "all and ", "all or ", "(all or ", "not (", "not not ", "all and not (none or "} {
		for _, token := range []string{"x", "and", "or", "in", "read", "write", "als", "al", "alll", "nota", "G", "gg", "leafs", "1", "0x1f", `""`, `"all"`, ")", ",", "=", "!=", "<", "<=", ">", ">=", "~", "!~", ""} {
			wrong := api.ErrWord
			if token == "G" {
				wrong = api.ErrSign
			}
			wrongs{{ahead + token, len(ahead), wrong}, {ahead + " \t\n" + token + " all", len(ahead) + 3, wrong}}[:min(2, 1+len(token))].hold(t)
		}
	}
}

// TestBehindFields: each field with each sign, with none, and with each sort of operand; and without blanks.
func TestBehindFields(t *testing.T) {
	signs := []string{"(", ")", ",", "=", "!=", "<", "<=", ">", ">=", "~", "!~"}
	numbers := []string{"=", "!=", "<", "<=", ">", ">="}
	operands := []string{"1", "0x10", `"x"`, `""`, "read", "all", "x", "(", ")", ",", "=", "!~", "", "?", "0x", `"`, "18446744073709551616"}
	unread := map[string]api.Errno{"?": api.ErrSign, "0x": api.ErrSign, `"`: api.ErrSign, "18446744073709551616": api.ErrOver}
	for field, can := range map[string][]string{
		"g": numbers, "obj": numbers, "arg": numbers, "at": numbers, "depth": numbers,
		"leaf": {"=", "!=", "~", "!~"}, "root": {"=", "!=", "~", "!~"}, "site": {"=", "!=", "~", "!~"},
		"kind": {"=", "!="},
	} {
		mine, wrong := operands[:2], api.ErrType
		switch field {
		case "leaf", "root", "site":
			mine = operands[2:4]
		case "kind":
			mine, wrong = operands[4:5], api.ErrWord
		}
		for _, sign := range signs {
			for _, operand := range operands {
				text := field + " " + sign + " " + operand
				fault := unread[operand]
				if fault == api.OK {
					fault = wrong
				}
				switch {
				case !slices.Contains(can, sign):
					refused(t, text, len(field)+1, api.ErrType)
				case !slices.Contains(mine, operand):
					refused(t, text, len(field)+len(sign)+2, fault)
				}
				holds(t, text, nil)
				holds(t, field+sign+operand, nil)
				holds(t, "("+text+" all", nil)
			}
		}
		for _, token := range []string{"1", `"x"`, "all", "is", "not", field, ""} {
			wrongs{{field + " " + token, len(field) + 1, api.ErrWord}, {field + " " + token + " = 1", len(field) + 1, api.ErrWord}}[:min(2, 1+len(token))].hold(t)
		}
		if field != "kind" {
			refused(t, field+" in (read)", len(field)+1, api.ErrWord)
		}
	}
}

// TestKindLists: at each place of a list each token that is not asked for there.
func TestKindLists(t *testing.T) {
	tokens := []string{"(", ")", ",", "read", "fork", "in", "kind", "all", "x", "1", `"read"`, "=", "~", "", "?", "0x", `"`, "99999999999999999999"}
	for ahead, asked := range map[string][]string{
		"kind in":                     {"("},
		"kind in (":                   {"read", "fork"},
		"kind in (read":               {",", ")"},
		"kind in (read,":              {"read", "fork"},
		"kind in (read, read":         {",", ")"},
		"kind in (read, write, fork,": {"read", "fork"},
		"not (all and kind in (join":  {",", ")"},
	} {
		for _, token := range tokens {
			wrong := api.ErrWord
			switch token {
			case "?", "0x", `"`:
				wrong = api.ErrSign
			case "99999999999999999999":
				wrong = api.ErrOver
			}
			if !slices.Contains(asked, token) {
				wrongs{{ahead + " " + token, len(ahead) + 1, wrong}, {ahead + "\n" + token + " read)", len(ahead) + 1, wrong}}[:min(2, 1+len(token))].hold(t)
			}
			for _, behind := range []string{"", " )", ", read)", " read)", " (read)", "))", ") or all"} {
				holds(t, ahead+" "+token+behind, nil)
			}
		}
	}
}

// TestBehindAll: what stands behind a whole query, and behind an or in brackets.
func TestBehindAll(t *testing.T) {
	for _, whole := range []string{"all", "g = 1", `leaf = "x"`, "kind = read", "kind in (read)", "not all", "(all)", "all and none", "all or none"} {
		for _, token := range []string{"x", "all", "not", "in", "1", `"x"`, "(", ",", "=", "!=", "<=", "~"} {
			wrongs{
				{whole + " " + token, len(whole) + 1, api.ErrTrail},
				{whole + "\n\t" + token + " all", len(whole) + 2, api.ErrTrail},
				{"(" + whole + " " + token, len(whole) + 2, api.ErrWord},
				{"not (" + whole + " " + token + ")", len(whole) + 6, api.ErrWord},
			}.hold(t)
		}
		wrongs{
			{whole + ")", len(whole), api.ErrTrail},
			{"(" + whole + "))", len(whole) + 2, api.ErrTrail},
			{"((" + whole + ")", len(whole) + 3, api.ErrWord},
			{"(" + whole + "  ", len(whole) + 3, api.ErrWord},
			{whole + " ?", len(whole) + 1, api.ErrSign},
			{"(" + whole + " ?", len(whole) + 2, api.ErrSign},
			{whole + ` "`, len(whole) + 1, api.ErrSign},
			{whole + " 0x", len(whole) + 1, api.ErrSign},
			{whole + " 99999999999999999999", len(whole) + 1, api.ErrOver},
			{"(" + whole + " 99999999999999999999", len(whole) + 2, api.ErrOver},
		}.hold(t)
	}
}

// TestFirstFault: of several faults the first one; at one place, that a token can't be read goes ahead of all else.
func TestFirstFault(t *testing.T) {
	const over = "99999999999999999999"
	deep := strings.Repeat("(", api.MaxNest)
	wrongs{
		{"x ?", 0, api.ErrWord},
		{"? x", 0, api.ErrSign},
		{"g ~ ?", 2, api.ErrType},
		{"g ? ~", 2, api.ErrSign},
		{"g ( ?", 2, api.ErrType},
		{"g x " + over, 2, api.ErrWord},
		{"g " + over + " x", 2, api.ErrOver},
		{"g = " + over + " ?", 4, api.ErrOver},
		{`g = "x" ?`, 4, api.ErrType},
		{`g = "x ?`, 4, api.ErrSign},
		{"leaf = " + over, 7, api.ErrOver},
		{"leaf = 0x", 7, api.ErrSign},
		{"kind = " + over, 7, api.ErrOver},
		{"kind = !", 7, api.ErrSign},
		{"kind = x !", 7, api.ErrWord},
		{"kind in ! (", 8, api.ErrSign},
		{"kind in (! read", 9, api.ErrSign},
		{"kind in (read " + over, 14, api.ErrOver},
		{"kind ! in", 5, api.ErrSign},
		{over, 0, api.ErrOver},
		{"all and " + over, 8, api.ErrOver},
		{"all ) ?", 4, api.ErrTrail},
		{"all ? )", 4, api.ErrSign},
		{"all all ?", 4, api.ErrTrail},
		{"(all all ?", 5, api.ErrWord},
		{deep + "?", 32, api.ErrSign},
		{deep + over, 32, api.ErrOver},
		{deep + "x", 32, api.ErrWord},
		{deep + ")", 32, api.ErrWord},
		{deep + "(?", 32, api.ErrNest},
		{deep + "not ?", 32, api.ErrNest},
		{deep + "all ?", 36, api.ErrSign},
		{deep + "all (", 36, api.ErrWord},
		{deep + "all not", 36, api.ErrWord},
		{deep + "g (", 34, api.ErrType},
		{deep + "g not", 34, api.ErrWord},
		{deep + "kind in ((", 41, api.ErrWord},
		{strings.Repeat("?", api.MaxQuery), 0, api.ErrSign},
		{strings.Repeat("?", api.MaxQuery+1), 0, api.ErrLarge},
	}.hold(t)
}

// TestAllShortTexts: each text of a few tokens, held against the plain reading.
func TestAllShortTexts(t *testing.T) {
	seen := samples.Seen{}
	for _, x := range []struct {
		ahead  string
		most   int
		tokens []string
	}{
		{"", 4, []string{"(", ")", "not", "and", "or", "all", "g", "=", "<", "1", "kind", "in", "read", ",", `"x"`, "site", "~", "?"}},
		{"", 6, []string{"(", ")", "not", "and", "or", "access", "sync"}},
		{"kind in", 5, []string{"(", ")", ",", "read", "fork", "and", "1"}},
		{"not (obj", 4, []string{"=", "!=", "<=", "2", ")", "and", "all", `"2"`}},
		{"all or root", 4, []string{"=", "!=", "!~", "2", ")", "and", "all", `"f"`}},
	} {
		for _, list := range samples.AllLists(x.most, x.tokens...) {
			text := strings.Join(append([]string{x.ahead}, list...), " ")
			seen[holds(t, text, few)]++
			if t.Failed() {
				t.FailNow()
			}
		}
	}
	if rare := seen.Rare(api.OK, api.ErrSign, api.ErrWord, api.ErrType, api.ErrTrail); len(rare) > 0 {
		t.Errorf("seldom met: %v", rare)
	}
}

// TestAllShortBytes: each text of a few bytes, behind a beginning; no blanks between tokens, unless they are told.
func TestAllShortBytes(t *testing.T) {
	seen := samples.Seen{}
	for ahead, signs := range map[string]string{
		"":                   `g=<>!~1 ()`,
		"g=":                 "0x1a9 \n)",
		"all":                " \nornd(!x0",
		"leaf=\"":            "\"\\nx4f\n",
		"kind in(read":       ",) writed",
		"g=1844674407370955": "1560x f)",
	} {
		for _, list := range samples.AllLists(5, []byte(signs)...) {
			seen[holds(t, ahead+string(list), few)]++
			if t.Failed() {
				t.FailNow()
			}
		}
	}
	if rare := seen.Rare(api.OK, api.ErrSign, api.ErrWord, api.ErrType, api.ErrTrail, api.ErrOver); len(rare) > 0 {
		t.Errorf("seldom met: %v", rare)
	}
}
