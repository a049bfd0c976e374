package dump_test

import (
	"math/rand"
	"slices"
	"strings"
	"testing"

	"hindsight/api"
	"hindsight/dump"
	"hindsight/event"
	"hindsight/samples"
)

func TestTextExamples(t *testing.T) {
	dumps(t, nil, "")
	dumps(t, []api.Event{}, "")
	dumps(t, []api.Event{write, mark()}, "3 write 0x1f 8 \"f\" \"main\"\n0 mark 0x0 0\n")
	unread(t, "3 write 0x1f 8\n0 mark 0x0 0", 2, api.ErrLine)
	unread(t, "\n", 1, api.ErrLine)
}

// TestLinesEnds: which lines there are, and which of them may not be.
func TestLinesEnds(t *testing.T) {
	const good = "0 mark 0x0 0"
	for _, c := range []struct {
		text string
		line int
	}{
		{good, 1},
		{good + "\n" + good, 2},
		{good + "\n" + good + "\n" + good, 3},
		{"x", 1}, {" ", 1}, {"\x00", 1}, {"\r", 1}, {`"`, 1},
		{"65536 mark 0x0 0", 1}, // its end is missed ahead of anything that it tells
		{good + "\n65536 mark 0x0 0", 2},
		{"\n\n", 1},
		{"\n" + good + "\n", 1},
		{good + "\n\n", 2},
		{good + "\n\n" + good + "\n", 2},
		{good + "\n" + good + "\n\n\n", 3},
		{good + "\n ", 2},
		{good + "\r\n", 1},
		{good + "\r", 1},
		{good + "\n\r", 2},
		{good + "\n\x00", 2},
		{good + "\u2028" + good + "\n", 1},
		{good + "\\n" + good + "\n", 1},
		{"0 mark 0x0 0 \"a\nb\"\n", 1},
		{"0 mark 0x0 0 \"a\n", 1},
		{good + "\n0 mark 0x0 0 \"a\n\n\"\n", 2},
		{" " + good + "\n", 1},
		{"\ufeff" + good + "\n", 1},
		{"# hindsight\n" + good + "\n", 1},
	} {
		unread(t, c.text, c.line, api.ErrLine)
	}
}

// TestFaultsInLines: each error of ParseLine in each line, also with others behind it; the first one counts.
func TestFaultsInLines(t *testing.T) {
	good := plainLine(write) + "\n"
	faults := []struct {
		line  string
		fault api.Errno
	}{
		{"x\n", api.ErrLine},
		{"\n", api.ErrLine},
		{"65536 mark 0x0 0\n", api.ErrG},
		{"0 fork 0x1 1\n", api.ErrObj},
		{"0 fork 0x0 0\n", api.ErrSize},
		{"0 mark 0x0 0" + strings.Repeat(` ""`, 17) + "\n", api.ErrSite},
	}
	for _, c := range faults {
		for ahead := range 6 {
			for behind := range 3 {
				text := strings.Repeat(good, ahead) + c.line + strings.Repeat(good, behind)
				unread(t, text, ahead+1, c.fault)
				for _, other := range faults {
					unread(t, text+other.line, ahead+1, c.fault)
					unread(t, text+"x", ahead+1, c.fault)
				}
			}
		}
	}
}

// TestDumpRefuses: the error of event.Bounds, of whatever event it is.
func TestDumpRefuses(t *testing.T) {
	for _, f := range samples.Faults() {
		for place := range 3 {
			trace := []api.Event{write, write, write}
			trace[place] = f.Event
			undumped(t, trace, f.Errno)
			undumped(t, append(trace, api.Event{}, api.Event{Kind: api.Mark, G: -1}), f.Errno)
		}
	}
}

// TestNeedsNoRun: what the events do to each other is not asked.
func TestNeedsNoRun(t *testing.T) {
	for _, trace := range samples.NoRuns() {
		dumps(t, trace, plainDump(trace))
	}
}

// TestAllShortTexts: all texts of at most five lines and pieces of lines.
func TestAllShortTexts(t *testing.T) {
	seen := samples.Seen{}
	for _, list := range samples.AllLists(5, "0 mark 0x0 0\n", "3 write 0x1f 8", ` "f" "main"`, "\n", "65536 mark 0x0 0\n", "0 read 0x0 0\n", ` "`) {
		text := strings.Join(list, "")
		trace, line, fault := plainParse(text)
		seen[fault]++
		if fault == api.OK {
			dumps(t, trace, text)
		} else {
			unread(t, text, line, fault)
		}
		if t.Failed() {
			t.FailNow()
		}
	}
	if rare := seen.Rare(api.OK, api.ErrLine, api.ErrG, api.ErrSize); len(rare) > 0 {
		t.Errorf("seldom met: %v", rare)
	}
}

// TestTextsThereAndBack: traces of all sorts, and longer ones; no two have one text.
func TestTextsThereAndBack(t *testing.T) {
	r := rand.New(rand.NewSource(2321))
	seen := map[string][]api.Event{}
	for range 2000 {
		trace := samples.Trace(r.Intn, 30)
		for _, e := range trace {
			for k := range e.Stack {
				if r.Intn(3) == 0 {
					e.Stack[k] = someText(r)
				}
			}
		}
		text := plainDump(trace)
		dumps(t, trace, text)
		if other, is := seen[text]; is && !sameEvents(trace, other) {
			t.Errorf("P23.7: %v and %v have one text", trace, other)
		}
		seen[text] = trace
	}
	trace := samples.Events(r.Intn, 10000, 9)
	dumps(t, trace, plainDump(trace))
}

// TestDamagedTexts: texts changed a little, held against a plain reading; what is read has just this text.
func TestDamagedTexts(t *testing.T) {
	r := rand.New(rand.NewSource(2322))
	seen := samples.Seen{}
	for range 20000 {
		text := edited(r, plainDump(samples.Trace(r.Intn, 8)))
		trace, line, fault := plainParse(text)
		seen[fault]++
		if fault == api.OK {
			dumps(t, trace, text)
		} else {
			unread(t, text, line, fault)
		}
		if t.Failed() {
			t.FailNow()
		}
	}
	if rare := seen.Rare(api.OK, api.ErrLine); len(rare) > 0 {
		t.Errorf("seldom met: %v", rare)
	}
}

// TestNothingElseCounts: what was asked ahead of it, refused or answered, changes no answer.
func TestNothingElseCounts(t *testing.T) {
	r := rand.New(rand.NewSource(2323))
	var traces [][]api.Event
	for range 20 {
		traces = append(traces, samples.Trace(r.Intn, 5))
	}
	for range 2000 {
		trace := traces[r.Intn(len(traces))]
		dump.Unquote(someText(r))
		dump.Line(api.Event{Kind: r.Intn(30)})
		dump.ParseLine(edited(r, plainLine(write)))
		dump.Dump([]api.Event{write, {}})
		dump.Parse(edited(r, plainDump(trace)))
		dumps(t, trace, plainDump(trace))
		for _, e := range trace {
			lines(t, e, plainLine(e))
		}
		s := someText(r)
		quotes(t, s, plainQuote(s))
	}
}

// TestTextOfChoices: a trace's text is that of its events, line by line.
func TestTextOfChoices(t *testing.T) {
	r := rand.New(rand.NewSource(2324))
	for range 300 {
		trace := samples.Trace(r.Intn, 20)
		text, _ := dump.Dump(trace)
		var want []string
		for _, e := range trace {
			line, fault := dump.Line(e)
			if fault != api.OK {
				t.Fatalf("P23.3: Line(%v): %d", e, fault)
			}
			want = append(want, line+"\n")
		}
		if got := slices.Collect(strings.Lines(text)); !slices.Equal(got, want) {
			t.Fatalf("P23.5: Dump of %v: %q, want %q", trace, got, want)
		}
		back, _, _ := dump.Parse(text)
		for k, e := range trace {
			if !event.Same(back[k], e) {
				t.Fatalf("P23.6: the event %d is %v, want %v", k, back[k], e)
			}
		}
	}
}
