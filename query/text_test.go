package query_test

import (
	"slices"
	"strings"
	"testing"

	"hindsight/api"
	"hindsight/query"
)

// written are texts and what their queries' canonical texts are.
type written map[string]string

func (w written) hold(t *testing.T) {
	t.Helper()
	all := crowd()
	for text, canonical := range w {
		compiled(t, text, canonical)
		holds(t, text, all)
	}
}

func TestTextExamples(t *testing.T) {
	written{
		"kind = write and (obj >= 0x10 or not g = 0)": "kind = write and (obj >= 16 or not g = 0)",
		"all or (none or access)":                     "all or none or access",
		"not (not all)":                               "not not all",
		"((all))":                                     "all",
		"not (all and none) and sync":                 "not (all and none) and sync",
		"kind in(read ,write)":                        "kind in (read, write)",
	}.hold(t)
}

// TestBrackets: where brackets are needed, and where they go.
func TestBrackets(t *testing.T) {
	written{
		"all":                                  "all",
		"(all)":                                "all",
		"not all":                              "not all",
		"not(all)":                             "not all",
		"(not all)":                            "not all",
		"(not(all))":                           "not all",
		"not not all":                          "not not all",
		"not(not(not(all)))":                   "not not not all",
		"all or none":                          "all or none",
		"(all or none)":                        "all or none",
		"(all) or (none)":                      "all or none",
		"all and none":                         "all and none",
		"(all and none)":                       "all and none",
		"all or none and access":               "all or none and access",
		"all or (none and access)":             "all or none and access",
		"(all or none) and access":             "(all or none) and access",
		"all and none or access":               "all and none or access",
		"(all and none) or access":             "all and none or access",
		"all and (none or access)":             "all and (none or access)",
		"all and (none and access)":            "all and none and access",
		"(all and none) and access":            "all and none and access",
		"(all or none) or access":              "all or none or access",
		"all and ((none or access))":           "all and (none or access)",
		"not all and none":                     "not all and none",
		"not (all and none)":                   "not (all and none)",
		"not ((all and none))":                 "not (all and none)",
		"not (all or none)":                    "not (all or none)",
		"not all or none":                      "not all or none",
		"not not (all or none)":                "not not (all or none)",
		"not (not (all or none))":              "not not (all or none)",
		"all and not (none and sync)":          "all and not (none and sync)",
		"all and not none and sync":            "all and not none and sync",
		"all or not (none or sync) or all":     "all or not (none or sync) or all",
		"all or (none and (sync or access))":   "all or none and (sync or access)",
		"all and (none or (sync and access))":  "all and (none or sync and access)",
		"all and (none or (sync or access))":   "all and (none or sync or access)",
		"all or (none and (sync and access))":  "all or none and sync and access",
		"(all or none) and (sync or access)":   "(all or none) and (sync or access)",
		"(all and none) or (sync and access)":  "all and none or sync and access",
		"((all or none) or sync) and access":   "(all or none or sync) and access",
		"(all or (none or sync)) or access":    "all or none or sync or access",
		"all and (none and (sync and access))": "all and none and sync and access",
		"all or all or all":                    "all or all or all",
		"none or all":                          "none or all",
	}.hold(t)
}

// TestAtoms: each atom's tokens, with one blank between each two; what was told twice, and in which order, stays.
func TestAtoms(t *testing.T) {
	written{
		"  access\n":                       "access",
		"sync":                             "sync",
		"none":                             "none",
		"g=1":                              "g = 1",
		"obj!=0x1f":                        "obj != 31",
		"arg<0":                            "arg < 0",
		"at<=00012":                        "at <= 12",
		"depth>0xffffffffffffffff":         "depth > 18446744073709551615",
		"g>=0x000":                         "g >= 0",
		`leaf=""`:                          `leaf = ""`,
		`root!="\x41"`:                     `root != "A"`,
		`site~"\x0a\x09\x22\x5c"`:          `site ~ "\n\t\"\\"`,
		"site!~\"\t\r\x80\"":               `site !~ "\t\x0d\x80"`,
		"kind=fork":                        "kind = fork",
		"kind!=rrelease":                   "kind != rrelease",
		"kind in(join)":                    "kind in (join)",
		"kind in(write,read,write)":        "kind in (write, read, write)",
		"kind\nin\t(mark , free,alloc )":   "kind in (mark, free, alloc)",
		"not kind in(make)and g=0":         "not kind in (make) and g = 0",
		"kind=read or kind=read":           "kind = read or kind = read",
		"(((kind in (read))or((g<1))))":    "kind in (read) or g < 1",
		"at=1 and(at=2 or(at=3 and at=4))": "at = 1 and (at = 2 or at = 3 and at = 4)",
	}.hold(t)
	wrongs{
		{"obj!=0x1F", 8, api.ErrSign},
		{"(((kind in (read))or((g<(1)))))", 24, api.ErrType},
		{"kind in (read)(write)", 14, api.ErrTrail},
	}.hold(t)
}

// opened is a text with some words and brackets ahead of it, each with a blank, and with the brackets closed.
func opened(openers []string, text string) string {
	for _, o := range slices.Backward(openers) {
		text = o + " " + text
		if o == "(" {
			text += ")"
		}
	}
	return text
}

// TestNest: brackets and nots 31, 32 and 33 deep, of one sort, in turns, and mixed at each place.
func TestNest(t *testing.T) {
	for depth := api.MaxNest - 1; depth <= api.MaxNest+1; depth++ {
		brackets, nots := slices.Repeat([]string{"("}, depth), slices.Repeat([]string{"not"}, depth)
		rows := [][]string{brackets, nots, slices.Repeat([]string{"(", "not"}, depth)[:depth], slices.Repeat([]string{"not", "("}, depth)[:depth]}
		for k := range depth {
			one, other := slices.Clone(brackets), slices.Clone(nots)
			one[k], other[k] = "not", "("
			rows = append(rows, one, other, slices.Concat(nots[:k], brackets[k:]), slices.Concat(brackets[:k], nots[k:]))
		}
		for _, row := range rows {
			for _, inner := range []string{"all", "g = 1 or none", "kind in (read, write) and all"} {
				text := opened(row, inner)
				if depth > api.MaxNest {
					refused(t, text, len(strings.Join(row[:api.MaxNest], " "))+1, api.ErrNest)
					refused(t, strings.Join(row, " "), len(strings.Join(row[:api.MaxNest], " "))+1, api.ErrNest)
				} else if q, _, fault := query.Compile(text); q == nil || fault != api.OK {
					t.Errorf("P24.1: %s: %d", brief(text), fault)
				}
				holds(t, text, few)
			}
		}
	}
	refused(t, strings.Repeat("not ", 33)+"all", 128, api.ErrNest)
	compiled(t, strings.Repeat("not ", 32)+"all", strings.Repeat("not ", 32)+"all")
	compiled(t, strings.Repeat("(", 32)+"all"+strings.Repeat(")", 32), "all")
}

// TestNestCloses: a bracket counts up to the one that closes it, a not up to the end of what it denies.
func TestNestCloses(t *testing.T) {
	nots, brackets := strings.Repeat("not ", 32)+"all", strings.Repeat("(", 32)+"all"+strings.Repeat(")", 32)
	for _, word := range []string{" and ", " or "} {
		compiled(t, nots+word+nots+word+nots, nots+word+nots+word+nots)
		compiled(t, brackets+word+nots+word+brackets, "all"+word+nots+word+"all")
		compiled(t, strings.Repeat("(all)"+word, 40)+nots, strings.Repeat("all"+word, 40)+nots)
		compiled(t, strings.Repeat("not all"+word, 40)+brackets, strings.Repeat("not all"+word, 40)+"all")
		compiled(t, strings.Repeat("not (not all)"+word, 40)+nots, strings.Repeat("not not all"+word, 40)+nots)
		refused(t, nots+word+"not "+nots, len(nots+word)+128, api.ErrNest)
		refused(t, brackets+word+"("+brackets+")", len(brackets+word)+32, api.ErrNest)

		// Within a bracket, or behind a not, one fewer is left; it counts on behind what was closed in it.
		inner := nots[len("not "):]
		compiled(t, "("+inner+word+inner+")", inner+word+inner)
		compiled(t, "not ("+inner[4:]+word+inner[4:]+")", "not ("+inner[4:]+word+inner[4:]+")")
		refused(t, "("+inner+word+nots+")", len("("+inner+word)+4*31, api.ErrNest)
		refused(t, "(not all"+word+brackets+")", len("(not all"+word)+31, api.ErrNest)
		refused(t, "not (all"+word+"(all)"+word+inner+")", len("not (all"+word+"(all)"+word)+4*30, api.ErrNest)
	}
	compiled(t, "("+strings.Repeat("kind in (read) or ", 40)+strings.Repeat("(", 31)+"all"+strings.Repeat(")", 32), strings.Repeat("kind in (read) or ", 40)+"all") // these brackets don't count
}

// TestCanonicalAtEachDepth: parts in brackets, of the same word and of the other one, as deep as may be.
func TestCanonicalAtEachDepth(t *testing.T) {
	for depth := range api.MaxNest + 1 {
		flat, flatText := "g = 1", "g = 1"
		turns, turnsText := "g = 1", "g = 1"
		denied, deniedText := "g = 1 or all", "g = 1 or all"
		for k := range depth {
			word := []string{" and ", " or "}[k%2]
			flat, flatText = "all or ("+flat+") or none", "all or "+flatText+" or none"
			turns = "(" + turns + ")" + word + "at = 2"
			if k > 0 && word == " and " {
				turnsText = "(" + turnsText + ")"
			}
			turnsText += word + "at = 2"
			denied, deniedText = "none"+word+"not ("+denied+")", "none"+word+"not ("+deniedText+")"
		}
		compiled(t, flat, flatText)
		compiled(t, turns, turnsText)
		holds(t, flat, few)
		holds(t, turns, few)
		if depth <= api.MaxNest/2 { // each not stands ahead of a bracket
			compiled(t, denied, deniedText)
		}
		holds(t, denied, few)
	}
}
