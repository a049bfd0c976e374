package query_test

import (
	"math/rand"
	"slices"
	"strings"
	"testing"
	"unsafe"

	"hindsight/api"
	"hindsight/event"
	"hindsight/query"
	"hindsight/samples"
)

// fickle is a string over bytes that change later, as its maker knows.
func fickle(s string) (string, []byte) {
	b := []byte(s)
	return unsafe.String(unsafe.SliceData(b), len(b)), b
}

// TestTextIsNotKept: the text that was compiled changes behind the call, and the query stays.
func TestTextIsNotKept(t *testing.T) {
	r, all := rand.New(rand.NewSource(2431)), crowd()
	texts := []string{"all", `leaf = "main"`, `site ~ "f" and root != "f"`, "kind in (read, write)", "not g >= 0x2", `leaf = "\x41\n" or kind = fork`}
	for range 200 {
		texts = append(texts, spread(r, someQuery(r, r.Intn(4))))
	}
	for _, text := range texts {
		want, _, _ := plainCompile(text)
		from, b := fickle(text)
		q, _, fault := query.Compile(from)
		if from != text {
			t.Fatalf("P24.6: %q became %q", text, from)
		}
		for _, with := range []byte("z)\"1") {
			samples.Spoil(b, with)
			if fault == api.OK && q.Text() != want.text {
				t.Fatalf("P24.6: the Text of %q became %q", text, q.Text())
			}
			if fault == api.OK {
				chooses(t, q, all, want.takes)
			}
		}
	}
}

// TestTextsAreNew: who writes over a Text's bytes changes neither the query nor another Text.
func TestTextsAreNew(t *testing.T) {
	for _, text := range []string{"all", "not none", `leaf = "main"`, "kind in (read, write) and g = 1", "sync or access"} {
		q := compiled(t, text, text)
		one, other := q.Text(), q.Text()
		if unsafe.StringData(one) == unsafe.StringData(other) {
			t.Errorf("P24.6: two Texts of %s share their bytes", text)
		}
	}
}

// fickleTrace is a trace over bytes that change later, with spare room behind the list and behind each stack.
func fickleTrace(trace []api.Event) (list []api.Event, bytes [][]byte) {
	list = append(make([]api.Event, 0, len(trace)+2), trace...)
	for k := range list {
		stack := make([]string, 0, len(trace[k].Stack)+2)
		for _, frame := range trace[k].Stack {
			from, b := fickle(frame)
			stack, bytes = append(stack, from), append(bytes, b)
		}
		list[k].Stack = stack
	}
	return list, bytes
}

// TestEventsStay: neither a list, nor a stack, nor the room behind them is changed or kept: what becomes of them
// later changes no answer, and what they are then is answered of.
func TestEventsStay(t *testing.T) {
	r := rand.New(rand.NewSource(2432))
	spoilt := api.Event{G: 99, Kind: 98, Obj: 97, Arg: 96, Stack: []string{"spoilt"}}
	for range 500 {
		trace := append(samples.Trace(r.Intn, 8), frame("main"), frame("f"))
		q, _, fault := query.Compile(spread(r, someQuery(r, r.Intn(4))))
		if fault != api.OK {
			continue
		}
		text, wantPlaces, wantTicks := q.Text(), q.Select(trace), q.Count(trace)
		list, bytes := fickleTrace(trace)
		places, ticks, met := q.Select(list), q.Count(list), q.Match(list[0], 0)
		if !slices.EqualFunc(list, trace, event.Same) || !event.Same(list[:cap(list)][len(list)], api.Event{}) {
			t.Fatalf("P24.6: %v became %v", trace, list)
		}
		for k := range list {
			if room := list[k].Stack; slices.Max(room[len(room):cap(room)]) != "" {
				t.Fatalf("P24.6: the room behind a stack became %q", room[:cap(room)])
			}
		}
		for _, b := range bytes {
			samples.Spoil(b, 'z')
		}
		for k := range list {
			asked(t, q, list)
			samples.Spoil(list[k].Stack, "spoilt")
		}
		samples.Spoil(list, spoilt)
		asked(t, q, list)
		if q.Match(spoilt, 0) != (len(q.Select(list[:1])) == 1) {
			t.Fatalf("P24.6: %s at an event that changed", text)
		}
		if !slices.Equal(places, wantPlaces) || !slices.Equal(ticks, wantTicks) || met != q.Match(trace[0], 0) || q.Text() != text {
			t.Fatalf("P24.6: the answers of %s became %v, %v, %q", text, places, ticks, q.Text())
		}
	}
}

// TestAnswersAreNew: who writes over an answer, or over the room behind it, changes no other one.
func TestAnswersAreNew(t *testing.T) {
	list := make([]api.Event, 40)
	for k := range list {
		list[k].G = k % 7
	}
	for _, text := range []string{"all", "at >= 3", "g != 2"} {
		q := compiled(t, text, text)
		places, ticks := q.Select(list), q.Count(list)
		again, ticksAgain := q.Select(list), q.Count(list)
		wantPlaces, wantTicks := slices.Clone(places), slices.Clone(ticks)
		samples.Spoil(places, -5)
		samples.Spoil(ticks, api.Tick{G: -5, T: -5})
		_, _ = append(places, 1, 2, 3), append(ticks, api.Tick{}, api.Tick{})
		if !slices.Equal(again, wantPlaces) || !slices.Equal(ticksAgain, wantTicks) {
			t.Errorf("P24.6: two answers of %s share memory", text)
		}
		if !slices.Equal(q.Select(list), wantPlaces) || !slices.Equal(q.Count(list), wantTicks) {
			t.Errorf("P24.6: what was written into an answer of %s is seen in a later one", text)
		}
	}
}

// TestAsksLeaveNothing: what a query answers hangs on the event alone, not on what it, or another query, was
// asked before.
func TestAsksLeaveNothing(t *testing.T) {
	r, all := rand.New(rand.NewSource(2433)), crowd()
	one, other := compiled(t, `site ~ "f" or g = 1`, `site ~ "f" or g = 1`), compiled(t, "at < 2 and not sync", "at < 2 and not sync")
	first := map[int][2]bool{}
	for range 20000 {
		k := r.Intn(len(all))
		now := [2]bool{one.Match(all[k].Event, all[k].at), other.Match(all[k].Event, all[k].at)}
		if before, is := first[k]; is && before != now {
			t.Fatalf("P0.3: of %v: %v, then %v", all[k], before, now)
		}
		first[k] = now
		if r.Intn(100) == 0 {
			query.Compile(strings.Repeat("(", r.Intn(40)) + "x")
			if one.Text() != `site ~ "f" or g = 1` || other.Text() != "at < 2 and not sync" {
				t.Fatalf("P0.3: the Texts became %q, %q", one.Text(), other.Text())
			}
		}
	}
}
