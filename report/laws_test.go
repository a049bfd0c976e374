package report_test

import (
	"math/rand"
	"slices"
	"strconv"
	"strings"
	"testing"

	"hindsight/api"
	"hindsight/race"
	"hindsight/report"
)

// racesOf are those that race.All tells of a run.
func racesOf(t *testing.T, run []api.Event) []api.Race {
	t.Helper()
	races, _, fault := race.All(run)
	if fault != api.OK {
		t.Fatalf("%s is no run: %d", brief(run), fault)
	}
	return races
}

// quieted are the races that rules silence.
func quieted(t *testing.T, run []api.Event, races []api.Race, rules []string) []api.Race {
	t.Helper()
	var list []api.Race
	for _, r := range races {
		quiet, fault := report.Quiet(run, r, rules)
		if fault != api.OK {
			t.Fatalf("P25.3: Quiet(%s, %v, %q): %d", brief(run), r, rules, fault)
		}
		if quiet {
			list = append(list, r)
		}
	}
	return list
}

// sums are the numbers of a report's groups, added up, how many groups there are, and the numbers of its last line.
func sums(t *testing.T, text string) (times, groups int, last []int) {
	t.Helper()
	for line := range strings.Lines(text) {
		words := strings.Fields(strings.NewReplacer(":", "", ",", "").Replace(line))
		switch words[0] {
		case "RACE":
			groups++
			n, _ := strconv.Atoi(words[2])
			times += n
			if words[1] != strconv.Itoa(groups) || n < 1 {
				t.Errorf("P25.5: the %d-th group begins with %q", groups, line)
			}
		case "TOTAL":
			for _, word := range words {
				if n, err := strconv.Atoi(word); err == nil {
					last = append(last, n)
				}
			}
		}
	}
	return times, groups, last
}

// TestLawsOfRules: more rules silence no less, in whatever order and however often they stand; none silences nothing;
// several silence what one of them does.
func TestLawsOfRules(t *testing.T) {
	r := rand.New(rand.NewSource(2541))
	more := 0
	for range 1500 {
		run := someRun(r, 40)
		races := racesOf(t, run)
		a, b := someRules(r), someRules(r)
		both := slices.Concat(a, b)
		byA, byB, byBoth := quieted(t, run, races, a), quieted(t, run, races, b), quieted(t, run, races, both)
		for _, x := range races {
			one := slices.Contains(byA, x) || slices.Contains(byB, x)
			if slices.Contains(byBoth, x) != one {
				t.Fatalf("P25.7: %v of %s with %q and %q: %v", x, brief(run), a, b, !one)
			}
		}
		more += len(byBoth) - max(len(byA), len(byB))
		r.Shuffle(len(both), func(i, j int) { both[i], both[j] = both[j], both[i] })
		if got := quieted(t, run, races, append(both, both...)); !slices.Equal(got, byBoth) {
			t.Fatalf("P25.7: %s with %q: %v, and %v", brief(run), both, got, byBoth)
		}
		if none := quieted(t, run, races, nil); len(none) > 0 {
			t.Fatalf("P25.7: %s without rules: %v", brief(run), none)
		}
	}
	if more < 100 {
		t.Errorf("more rules silenced %d races more only", more)
	}
}

// TestLawOfStars: the rule race:* silences each race of which one of the two stacks has a frame, and no other.
func TestLawOfStars(t *testing.T) {
	r := rand.New(rand.NewSource(2542))
	bare, framed := 0, 0
	for range 1500 {
		run := someRun(r, 40)
		races := racesOf(t, run)
		quiet := quieted(t, run, races, []string{"race:*"})
		for _, x := range races {
			has := len(run[x.First].Stack)+len(run[x.Second].Stack) > 0
			if slices.Contains(quiet, x) != has {
				t.Fatalf("P25.7: %v of %s with race:*: %v", x, brief(run), !has)
			}
			if has {
				framed++
			} else {
				bare++
			}
		}
	}
	if bare < 500 || framed < 5000 {
		t.Errorf("the test met %d races without frames and %d with some", bare, framed)
	}
}

// TestLawsOfSums: the numbers of the groups, added up, and the silenced ones are all races; the groups are those of
// Group over what Quiet leaves.
func TestLawsOfSums(t *testing.T) {
	r := rand.New(rand.NewSource(2543))
	for range 1500 {
		run, rules := someRun(r, 50), someRules(r)
		races := racesOf(t, run)
		quiet := quieted(t, run, races, rules)
		text, fault := report.Text(run, rules)
		if fault != api.OK {
			t.Fatalf("P25.5: Text(%s, %q): %d", brief(run), rules, fault)
		}
		times, groups, last := sums(t, text)
		if times+len(quiet) != len(races) || !slices.Equal(last, []int{times, groups, len(quiet), len(run)}) {
			t.Fatalf("P25.7: of %d races %d are silenced, and Text is\n%s", len(races), len(quiet), text)
		}
		left := slices.DeleteFunc(races, func(x api.Race) bool { return slices.Contains(quiet, x) })
		firsts, counts, _ := report.Group(run, left)
		if len(firsts) != groups {
			t.Fatalf("P25.5: the groups of %v are %v, and Text is\n%s", left, firsts, text)
		}
		for k, n := range counts {
			if !strings.Contains(text, "RACE "+strconv.Itoa(k+1)+": "+strconv.Itoa(n)+" times\n") {
				t.Fatalf("P25.5: the group %d has %d races, and Text is\n%s", k, n, text)
			}
		}
	}
}

// TestLawsOfMatch: what holds of each pattern and text.
func TestLawsOfMatch(t *testing.T) {
	r := rand.New(rand.NewSource(2544))
	reversed := func(s string) string {
		b := []byte(s)
		slices.Reverse(b)
		return string(b)
	}
	some := func(signs string, n int) string {
		b := make([]byte, r.Intn(n))
		for k := range b {
			b[k] = signs[r.Intn(len(signs))]
		}
		return string(b)
	}
	fitted := 0
	for range 30000 {
		p, q, s, u := some("aab**", 10), some("ab*", 8), some("ab", 14), some("ab*", 10)
		fits := report.Match(p, s)
		if report.Match(reversed(p), reversed(s)) != fits {
			t.Fatalf("P25.1: Match(%q, %q) is not what it is from behind", p, s)
		}
		if fits && (!report.Match(p+"*", s+u) || !report.Match("*"+p, u+s) || report.Match(q, u) && !report.Match(p+q, s+u)) {
			t.Fatalf("P25.1: %q matches %q, but what is longer does not match", p, s)
		}
		if report.Match(strings.ReplaceAll(p, "*", "***"), s) != fits || report.Match("x"+p+"x", "x"+s+"x") != fits {
			t.Fatalf("P25.1: Match(%q, %q) changes", p, s)
		}
		if !report.Match(u, u) || !report.Match("*"+s+"*", u+s+u) || report.Match(s, u) != (s == u) {
			t.Fatalf("P25.1: %q does not match itself alone", u)
		}
		if fits {
			fitted++
		}
	}
	if fitted < 3000 {
		t.Errorf("only %d matched", fitted)
	}
}
