package query_test

import (
	"math/rand"
	"strings"
	"testing"

	"hindsight/api"
	"hindsight/query"
)

// TestLargestTexts: texts of just MaxQuery bytes, and of one more, of which nothing else is said.
func TestLargestTexts(t *testing.T) {
	fill := func(ahead, with, behind string) string {
		return ahead + strings.Repeat(with, (api.MaxQuery-len(ahead)-len(behind))/len(with)) + behind
	}
	for _, x := range []struct{ text, canonical string }{
		{fill("all", " ", ""), "all"},
		{fill("", "\n", "all"), "all"},
		{fill("g=1 \t", "or g=1\n", ""), "g = 1" + strings.Repeat(" or g = 1", 584)},
		{fill(`leaf = "`, "x", `"`), fill(`leaf = "`, "x", `"`)},
		{fill(`leaf="`, "\xff", `"`), `leaf = "` + strings.Repeat(`\xff`, 4089) + `"`},
		{fill(`leaf = "`, `\"`, `"`), `leaf = "` + strings.Repeat(`\"`, 2043) + `"`},
		{fill("g = ", "0", "1"), "g = 1"},
		{fill("not(", "all and ", "all)"), "not (" + strings.Repeat("all and ", 511) + "all)"},
		{fill("kind in(", "read,", "ack)"), "kind in (" + strings.Repeat("read, ", 816) + "ack)"},
	} {
		text := x.text + strings.Repeat(" ", api.MaxQuery-len(x.text))
		compiled(t, text, x.canonical)
		holds(t, text, few)
		refused(t, text+" ", 0, api.ErrLarge)
		refused(t, text+"?", 0, api.ErrLarge)
		refused(t, strings.Repeat(text, 3), 0, api.ErrLarge)
	}
	wrongs{
		{fill("", " ", ""), api.MaxQuery, api.ErrWord},
		{fill("", " ", "x"), api.MaxQuery - 1, api.ErrWord},
		{fill("", " ", "?"), api.MaxQuery - 1, api.ErrSign},
		{fill("", "a", ""), 0, api.ErrWord},
		{fill("", "9", ""), 0, api.ErrOver},
		{fill("", "0", ""), 0, api.ErrWord},
		{fill("all", " ", ")"), api.MaxQuery - 1, api.ErrTrail},
		{fill("", "(", ""), api.MaxNest, api.ErrNest},
		{fill(`leaf = "`, "x", ""), 7, api.ErrSign},
		{fill("", "?", "") + "?", 0, api.ErrLarge},
		{strings.Repeat(" ", 1<<24), 0, api.ErrLarge},
		{strings.Repeat("all or ", 1<<20), 0, api.ErrLarge},
	}.hold(t)
}

// TestTextsOverMaxQuery: a query's Text may be longer than a text that is compiled, by one byte or by many.
func TestTextsOverMaxQuery(t *testing.T) {
	for more := range 4 {
		frame := `"` + strings.Repeat("x", api.MaxQuery-11+more) + `"`
		q := compiled(t, "site~"+frame, "site ~ "+frame)
		if len(q.Text()) != api.MaxQuery-2+more {
			t.Errorf("P24.2: the Text has %d bytes", len(q.Text()))
		}
	}
	r := rand.New(rand.NewSource(2441))
	over := 0
	for range 100 {
		text := "all"
		for len(text) < api.MaxQuery-500 {
			text += " or(" + spread(r, someQuery(r, 2)) + `)and root="` + strings.Repeat("\xff", r.Intn(20)) + `"`
		}
		if q, _, _ := query.Compile(text); len(q.Text()) > api.MaxQuery {
			over++
		}
		holds(t, text, few)
	}
	if over < 5 {
		t.Errorf("the test met %d long Texts only", over)
	}
}

// TestLargestTraces: as many events as a trace may have and more, each of another goroutine, and long queries.
func TestLargestTraces(t *testing.T) {
	list := make([]api.Event, api.MaxEvents+5)
	for k := range list {
		list[k] = api.Event{G: len(list) - k, Kind: 1 + k%22, Obj: uint64(k), Stack: []string{"f", "main"}[:k%3]}
	}
	q := compiled(t, "all", "all")
	places, ticks := q.Select(list), q.Count(list)
	if len(places) != len(list) || len(ticks) != len(list) {
		t.Fatalf("P24.3: %d places, %d goroutines", len(places), len(ticks))
	}
	for k := range list {
		if places[k] != k || ticks[k] != (api.Tick{G: k + 1, T: 1}) {
			t.Fatalf("P24.3: %d: %v, %v", k, places[k], ticks[k])
		}
	}
	long := strings.Repeat("obj = 1 and ", 300) + "all"
	if got := compiled(t, long, long).Select(list); len(got) != 1 || got[0] != 1 {
		t.Errorf("P24.3: Select = %v", got)
	}
	deep := strings.Repeat("not (none or ", 16) + "at = 7" + strings.Repeat(")", 16)
	if got := compiled(t, deep, deep).Count(list); len(got) != 1 || got[0] != (api.Tick{G: len(list) - 7, T: 1}) {
		t.Errorf("P24.3: Count = %v", got)
	}
}
