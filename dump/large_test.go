package dump_test

import (
	"slices"
	"strings"
	"testing"

	"hindsight/api"
	"hindsight/dump"
	"hindsight/samples"
)

// sized is a trace with a text of just so many bytes, of few lines that are mostly as long as they may be.
func sized(bytes int) []api.Event {
	var trace []api.Event
	for _, full := range []api.Event{
		mark(slices.Repeat([]string{strings.Repeat("\x00", api.MaxSite)}, api.MaxDepth)...), // four bytes each
		mark(slices.Repeat([]string{strings.Repeat("x", api.MaxSite)}, api.MaxDepth)...),
		mark(slices.Repeat([]string{strings.Repeat("x", api.MaxSite)}, 4)...),
	} {
		whole := len(plainLine(full)) + 1
		trace = append(trace, slices.Repeat([]api.Event{full}, bytes/whole)...)
		bytes %= whole
	}
	last := mark()
	bytes -= len(plainLine(last)) + 1
	for bytes > 3 { // a blank and two signs around each frame
		n := min(bytes-6, api.MaxSite)
		last.Stack = append(last.Stack, strings.Repeat("y", n))
		bytes -= 3 + n
	}
	last.Stack = append(last.Stack, "")
	if bytes != 3 {
		panic("no trace of that size")
	}
	return append(trace, last)
}

// TestLargestText: a text of just MaxFile bytes, and of one more.
func TestLargestText(t *testing.T) {
	trace := sized(api.MaxFile)
	text := plainDump(trace)
	if len(text) != api.MaxFile {
		t.Fatalf("the text has %d bytes", len(text))
	}
	dumps(t, trace, text)
	unread(t, text[:len(text)-1], len(trace), api.ErrLine)
	unread(t, text[1:]+"x", 1, api.ErrLine)
	unread(t, text+"0", 0, api.ErrLarge)
	unread(t, text+"\n", 0, api.ErrLarge)

	last := trace[len(trace)-1].Stack
	last[len(last)-1] = "z"
	more := plainDump(trace)
	if len(more) != api.MaxFile+1 {
		t.Fatalf("the text has %d bytes", len(more))
	}
	undumped(t, trace, api.ErrLarge)
	unread(t, more, 0, api.ErrLarge)
	undumped(t, append(slices.Clone(trace), mark()), api.ErrLarge)
	// What event.Bounds tells goes ahead, wherever it is.
	undumped(t, append(slices.Clone(trace), api.Event{}), api.ErrKind)
}

// TestTooLarge: the length goes ahead of what stands in a text, and a trace's text may be longer than memory.
func TestTooLarge(t *testing.T) {
	for _, s := range []string{"\n", "x", "\"", "0 mark 0x0 0\n"} {
		text := strings.Repeat(s, api.MaxFile/len(s)+1)
		unread(t, text[:api.MaxFile+1], 0, api.ErrLarge)
		unread(t, text, 0, api.ErrLarge)
		if s != "0 mark 0x0 0\n" {
			unread(t, text[:api.MaxFile], 1, api.ErrLine)
		}
	}
	long := mark(slices.Repeat([]string{strings.Repeat("\x00", api.MaxSite)}, api.MaxDepth)...)
	undumped(t, slices.Repeat([]api.Event{long}, 16), api.ErrLarge)
	undumped(t, slices.Repeat([]api.Event{long}, 2000), api.ErrLarge)
}

// TestManyLines: as many events as there may be, and more; the fault of a later line goes ahead of there being
// too many.
func TestManyLines(t *testing.T) {
	const line = "0 mark 0x0 0\n"
	trace := slices.Repeat([]api.Event{mark()}, api.MaxEvents)
	text := strings.Repeat(line, api.MaxEvents)
	dumps(t, trace, text)
	undumped(t, append(trace, mark()), api.ErrLarge)
	undumped(t, append(trace, mark(), api.Event{}), api.ErrLarge)
	for _, more := range []int{1, 1000} {
		longer := text + strings.Repeat(line, more)
		unread(t, longer, api.MaxEvents+1, api.ErrLarge)
		unread(t, longer+"\n", api.MaxEvents+more+1, api.ErrLine)
		unread(t, longer+"65536 mark 0x0 0\n", api.MaxEvents+more+1, api.ErrG)
		unread(t, longer+line+line[:5], api.MaxEvents+more+2, api.ErrLine)
	}
	unread(t, text+"x\n", api.MaxEvents+1, api.ErrLine)
	unread(t, text+"0 mark 0x0 0", api.MaxEvents+1, api.ErrLine)
	unread(t, strings.Repeat(line, api.MaxFile/len(line)), api.MaxEvents+1, api.ErrLarge)
}

// beyond holds traces of which event.Bounds refuses the last event: alone, with more behind it, and with a
// fault of a line behind it.
func beyond(t *testing.T, trace []api.Event) {
	t.Helper()
	n := len(trace)
	text := plainLines(trace)
	undumped(t, trace, api.ErrLarge)
	dumps(t, trace[:n-1], strings.Join(text[:n-1], ""))
	unread(t, strings.Join(text, ""), n, api.ErrLarge)
	unread(t, strings.Join(text, "")+text[n-1]+text[0], n, api.ErrLarge)
	unread(t, strings.Join(text, "")+text[0]+"x\n", n+2, api.ErrLine)
	unread(t, strings.Join(text, "")+text[0]+"65536 mark 0x0 0\n", n+2, api.ErrG)
	unread(t, strings.Join(text[:n-1], "")+"\n"+text[n-1], n, api.ErrLine)
}

// plainLines are the lines of a trace, with their ends.
func plainLines(trace []api.Event) []string {
	list := make([]string, len(trace))
	for k, e := range trace {
		list[k] = plainLine(e) + "\n"
	}
	return list
}

func single(frames ...string) []api.Event {
	var trace []api.Event
	for _, frame := range frames {
		trace = append(trace, mark(frame))
	}
	return trace
}

// TestBeyondBounds: traces that event.Bounds alone refuses, for each of its limits.
func TestBeyondBounds(t *testing.T) {
	beyond(t, append(single(samples.Numbered(api.MaxStrings)...), mark("abc")))
	beyond(t, append(single(samples.Longest(api.MaxText/api.MaxSite)...), mark("x")))
	list := samples.Numbered(512)
	var trace []api.Event
	for _, outer := range list {
		for _, inner := range list[1:] {
			trace = append(trace, mark(inner, outer))
		}
	}
	beyond(t, append(trace, mark(list[0], list[0])))
}

// TestHuge: every call ends, whatever it is given.
func TestHuge(t *testing.T) {
	for _, c := range []struct {
		s      string
		frames api.Errno // what ParseLine answers where these stand for the frames
	}{
		{" ", api.ErrLine}, {`"`, api.ErrLine}, {`\`, api.ErrLine}, {"'", api.ErrLine}, {"`", api.ErrLine}, {"0", api.ErrLine}, {"\n", api.ErrLine}, {"\xef\xbf", api.ErrLine}, {`\x`, api.ErrLine}, {`""`, api.ErrLine}, {` "\`, api.ErrLine}, {"0 ", api.ErrLine}, {"é", api.ErrLine},
		{` ""`, api.ErrSite}, {` "`, api.ErrSite},
	} {
		long := strings.Repeat(c.s, api.MaxFile/16)
		noWord(t, long)
		noWord(t, `"`+long+"\x00")
		wrong(t, long, api.ErrLine)
		wrong(t, "0 mark 0x0 "+long, api.ErrLine)
		wrong(t, "0 mark 0x0 0"+long, c.frames)
		if got, fault := dump.Unquote(dump.Quote(long)); got != long || fault != api.OK {
			t.Errorf("P23.7: Unquote of the word of %s is %s, %d", brief(long), brief(got), fault)
		}
	}
	wrong(t, "0 mark 0x0 0"+strings.Repeat(` ""`, api.MaxFile/3), api.ErrSite)
}
