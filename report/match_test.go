package report_test

import (
	"math/rand"
	"strings"
	"testing"
	"time"

	"hindsight/report"
	"hindsight/samples"
)

func TestMatchExamples(t *testing.T) {
	for _, x := range [][2]string{{"a*c", "abc"}, {"a*c", "ac"}, {"*", ""}, {"**", "x"}, {"", ""}, {"a*b*c", "aXbYc"}} {
		matches(t, x[0], x[1], true)
	}
	for _, x := range [][2]string{{"a*c", "abcd"}, {"", "x"}, {"*a", "ab"}, {"a", "A"}, {"a", "*"}} {
		matches(t, x[0], x[1], false)
	}
}

// TestAllShortPatterns: all patterns of few bytes over all texts of few bytes, stars among both.
func TestAllShortPatterns(t *testing.T) {
	hit := 0
	for _, pattern := range samples.AllLists(6, []byte("ab*")...) {
		for _, text := range samples.AllLists(5, []byte("ab*")...) {
			want := plainMatch(string(pattern), string(text))
			if report.Match(string(pattern), string(text)) != want {
				t.Fatalf("P25.1: Match(%q, %q) = %v", pattern, text, !want)
			}
			if want {
				hit++
			}
		}
	}
	if hit < 30000 {
		t.Errorf("only %d matched", hit)
	}
}

// TestPlacesOfStars: none, alone, at the begin, at the end, side by side, many between.
func TestPlacesOfStars(t *testing.T) {
	for _, x := range []struct {
		pattern   string
		fits, not []string
	}{
		{"", []string{""}, []string{"a", "*", "\x00"}},
		{"main.f", []string{"main.f"}, []string{"", "main.", "main.ff", "xmain.f", "main*f", "main.F", "mainxf"}},
		{"*", []string{"", "a", "*", "\n", "main.f", "\x00\xff"}, nil},
		{"*****", []string{"", "a", "***", "\n\n"}, nil},
		{"*ab", []string{"ab", "aab", "abab", "*ab", "\nab"}, []string{"", "b", "a", "aba", "ba"}},
		{"ab*", []string{"ab", "abb", "abab", "ab*"}, []string{"", "a", "aab", "b", "ba"}},
		{"*ab*", []string{"ab", "aabb", "xaby", "abab"}, []string{"", "a", "b", "ba", "axb"}},
		{"ab*ab", []string{"abab", "abxab", "ababab"}, []string{"ab", "aba", "bab", "abb", "abxa"}},
		{"a*a", []string{"aa", "aaa", "aba"}, []string{"", "a", "ab", "ba"}},
		{"a**a", []string{"aa", "aaa", "aba"}, []string{"", "a", "ab", "ba"}},
		{"**a**b**", []string{"ab", "xxaxxbxx", "aab"}, []string{"ba", "bbaa", "a", ""}},
		{"*aba*", []string{"ababa", "xaba"}, []string{"abba", "ab"}},
		{"*aba*aba", []string{"abaaba", "ababaaba", "abaxaba"}, []string{"ababa", "aba", "abaab"}},
		{"aba*ba", []string{"ababa", "abaxba"}, []string{"aba", "abaa"}},
		{"*aab", []string{"aaab", "aabaab"}, []string{"aaba", "ab"}},
		{"a*b*c*d", []string{"abcd", "axbxcxd", "abbccdd", "abcdabcd"}, []string{"acbd", "abc", "bcd", "abcdx"}},
		{"*a*b*a*b*", []string{"abab", "aabb ab", "xaxbxaxbx"}, []string{"aabb", "abba", "bab"}},
	} {
		for _, text := range x.fits {
			matches(t, x.pattern, text, true)
		}
		for _, text := range x.not {
			matches(t, x.pattern, text, false)
		}
	}
}

// TestMatchAllBytes: each byte in a pattern stands for itself, but the star; in a text, for itself too.
func TestMatchAllBytes(t *testing.T) {
	for a := range 256 {
		pattern := string([]byte{byte(a)})
		for b := range 256 {
			text := string([]byte{byte(b)})
			is := a == b || a == '*'
			matches(t, pattern, text, is)
			matches(t, "x"+pattern+"y", "x"+text+"y", is)
			matches(t, "*"+pattern+"y*", "xy"+text+"yx", is || a == 'x')
		}
		matches(t, pattern, "", a == '*')
		matches(t, "*", pattern+pattern, true)
	}
	// A sign of several bytes is these bytes.
	for _, x := range []struct {
		pattern, text string
		want          bool
	}{{"é", "é", true}, {"\xc3*", "é", true}, {"*\xa9", "é", true}, {"\xc3*\xa9", "é", true}, {"*\xc3", "é", false}, {"é", "e\u0301", false}, {"\ufffd", "\xff", false}, {"\xff", "\xfe", false}, {"\xff", "\ufffd", false}, {"K", "\u212a", false}, {"[a-z]?.", "x", false}, {"?", "x", false}, {"\\*", "*", false}, {"\\*", "\\x", true}, {"a\x00*", "a", false}, {"a*", "a\x00", true}} {
		matches(t, x.pattern, x.text, x.want)
	}
}

// TestRandomMatches: longer patterns that are made of pieces of the text, mostly, with what may go wrong.
func TestRandomMatches(t *testing.T) {
	r := rand.New(rand.NewSource(2511))
	seen := map[bool]int{}
	for range 40000 {
		var text []byte
		for range r.Intn(60) {
			text = append(text, []byte("ab*\xff\n")[r.Intn(1+r.Intn(5))])
		}
		pattern := ""
		for from := 0; from <= len(text); {
			to := from + r.Intn(len(text)-from+1)
			pattern += string(text[from:to]) + strings.Repeat("*", r.Intn(3))
			from = to + 1 + r.Intn(4)*r.Intn(2)
		}
		want := plainMatch(pattern, string(text))
		seen[want]++
		if got := report.Match(pattern, string(text)); got != want {
			t.Fatalf("P25.1: Match(%q, %q) = %v", pattern, text, got)
		}
	}
	if min(seen[true], seen[false]) < 4000 {
		t.Errorf("the test met %v", seen)
	}
}

// TestLongPatterns: thousands of bytes with many stars, over texts that have each piece often.
func TestLongPatterns(t *testing.T) {
	a, ab := strings.Repeat("a", 3000), strings.Repeat("ab", 1500)
	matches(t, a, a, true)
	matches(t, a, a[1:], false)
	for _, n := range []int{1, 2, 999, 1500, 3000} {
		matches(t, strings.Repeat("a*", n), a, true)
		matches(t, strings.Repeat("a*", n)+"b", a, false)
		matches(t, strings.Repeat("*a", n), a, true)
		matches(t, "b"+strings.Repeat("*a", n), a, false)
		matches(t, strings.Repeat("*", n), ab, true)
		matches(t, strings.Repeat("*", n)+"c", ab, false)
	}
	matches(t, strings.Repeat("a*", 3001), a, false)
	matches(t, strings.Repeat("*a", 3001), a, false)
	matches(t, strings.Repeat("ab*", 1500), ab, true)
	matches(t, strings.Repeat("ab*", 1501), ab, false)
	matches(t, strings.Repeat("ba*", 1499), ab, false)
	matches(t, strings.Repeat("*ba", 1499), ab, false)
	matches(t, strings.Repeat("*ba", 1499)+"*", ab, true)
	matches(t, strings.Repeat("*ba", 1500)+"*", ab, false)
}

// TestHugePatterns: the work grows with the bytes, not with one length times the other.
func TestHugePatterns(t *testing.T) {
	begun := time.Now()
	const n = 1 << 22
	a, ab := strings.Repeat("a", n), strings.Repeat("ab", n/2)
	for _, x := range []struct {
		pattern, text string
		want          bool
	}{
		{a, a, true},
		{"*" + a[1:] + "*", a, true},
		{"*" + a[:n/2] + "b*", a, false},
		{"*" + a[:n/2] + "b", a, false},
		{"*b" + a[:n/2] + "*", a, false},
		{"*" + ab[:n/2] + "b*", ab, false},
		{"*" + ab[:n/2] + "b*", ab + "b" + ab, true},
		{strings.Repeat("*a", n), a, true},
		{strings.Repeat("*a", n) + "*a", a, false},
		{strings.Repeat("a*", n) + "*", a, true},
		{strings.Repeat("*aa", n/2) + "*b", a, false},
		{strings.Repeat("*ab", n/2), ab, true},
		{strings.Repeat("*ba", n/2), ab, false},
		{strings.Repeat("*", n), ab, true},
		{strings.Repeat("*", n) + "x" + strings.Repeat("*", n), ab, false},
		{strings.Repeat("*", n), "", true},
		{"", ab, false},
		{"*" + strings.Repeat("a", 100) + "b*", a, false},
	} {
		if got := report.Match(x.pattern, x.text); got != x.want {
			t.Errorf("P25.1: Match(%s, %s) = %v", brief(x.pattern[:min(len(x.pattern), 50)]), brief(x.text[:min(len(x.text), 50)]), got)
		}
	}
	if took := time.Since(begun); took > 60*time.Second {
		t.Errorf("P0.1: it took %v", took)
	}
}
