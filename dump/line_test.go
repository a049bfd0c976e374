package dump_test

import (
	"math"
	"math/rand"
	"slices"
	"strings"
	"testing"

	"hindsight/api"
	"hindsight/dump"
	"hindsight/event"
	"hindsight/samples"
)

var write = api.Event{G: 3, Kind: api.Write, Obj: 31, Arg: 8, Stack: []string{"f", "main"}}

func mark(stack ...string) api.Event { return api.Event{Kind: api.Mark, Stack: stack} }

func TestLineExamples(t *testing.T) {
	lines(t, write, `3 write 0x1f 8 "f" "main"`)
	for _, s := range []string{"03 write 0x1f 8", "3 write 0x01f 8", "3 write 0x1F 8", "3 write 31 8", "3  write 0x1f 8", "3 write 0x1f 8 ", "3 wrote 0x1f 8", "3 write 0x1f", "-3 write 0x1f 8", ""} {
		wrong(t, s, api.ErrLine)
	}
	wrong(t, "65536 write 0x1f 8", api.ErrG)
	wrong(t, "3 write 0x1f 0", api.ErrSize)
}

// TestLines: each kind, and the ends of each part.
func TestLines(t *testing.T) {
	for kind, name := range []string{1: "read", 2: "write", 3: "acquire", 4: "release", 5: "racquire", 6: "rrelease", 7: "fork", 8: "join", 9: "make", 10: "send", 11: "ack", 12: "recv", 13: "close", 14: "add", 15: "wait", 16: "once", 17: "load", 18: "store", 19: "swap", 20: "alloc", 21: "free", 22: "mark"} {
		e := api.Event{G: 7, Kind: kind, Obj: 0xab}
		line := "7 " + name + " 0xab 0"
		switch kind {
		case api.Fork, api.Join:
			e.Obj, e.Arg, line = 0, 12, "7 "+name+" 0x0 12"
		case api.Read, api.Write, api.Alloc, api.Free:
			e.Arg, line = 12, "7 "+name+" 0xab 12"
		}
		if kind > 0 {
			lines(t, e, line)
		}
	}
	lines(t, api.Event{Kind: api.Mark}, "0 mark 0x0 0")
	lines(t, api.Event{G: 65535, Kind: api.Mark, Obj: math.MaxUint64, Arg: math.MaxUint64}, "65535 mark 0xffffffffffffffff 18446744073709551615")
	lines(t, api.Event{G: 10, Kind: api.Mark, Obj: 0x10, Arg: 10}, "10 mark 0x10 10")
	lines(t, api.Event{G: 9, Kind: api.Mark, Obj: 0x0123456789abcdef, Arg: 9876543210}, "9 mark 0x123456789abcdef 9876543210")
	lines(t, api.Event{Kind: api.Mark, Obj: 1 << 63, Arg: 1 << 63}, "0 mark 0x8000000000000000 9223372036854775808")
	lines(t, api.Event{Kind: api.Add, Obj: 1, Arg: 4294967294}, "0 add 0x1 4294967294")
}

// TestStacks: a stack without frames is the same, nil or empty; frames of signs that also stand between parts.
func TestStacks(t *testing.T) {
	lines(t, api.Event{Kind: api.Mark, Stack: []string{}}, "0 mark 0x0 0")
	lines(t, mark(""), `0 mark 0x0 0 ""`)
	lines(t, mark("", ""), `0 mark 0x0 0 "" ""`)
	lines(t, mark(" "), `0 mark 0x0 0 " "`)
	lines(t, mark(`" "`, `\`, `\" `), `0 mark 0x0 0 "\" \"" "\\" "\\\" "`)
	lines(t, mark("a b\nc", "3 write 0x1f 8"), `0 mark 0x0 0 "a b\nc" "3 write 0x1f 8"`)
	lines(t, mark("\xff\xc3", "\xa9"), `0 mark 0x0 0 "\xff\xc3" "\xa9"`) // each frame is a word alone
	full := slices.Repeat([]string{""}, api.MaxDepth)
	lines(t, mark(full...), "0 mark 0x0 0"+strings.Repeat(` ""`, api.MaxDepth))
}

// TestGoodEventsOnly: Line refuses what event.Check refuses, and ParseLine its line, if it has one.
func TestGoodEventsOnly(t *testing.T) {
	for _, f := range samples.Faults() {
		if got, fault := dump.Line(f.Event); got != "" || fault != f.Errno {
			t.Errorf("P23.3: Line(%v) = %s, %d, want none, %d", f.Event, brief(got), fault, f.Errno)
		}
		if f.Errno != api.ErrKind && f.Event.G >= 0 {
			wrong(t, plainLine(f.Event), f.Errno)
		}
	}
}

// TestFrames: as many and as long as there may be, and more; what is refused at last is read to its end ahead of that.
func TestFrames(t *testing.T) {
	deep := func(n int) string { return "0 mark 0x0 0" + strings.Repeat(` "f"`, n) }
	parses(t, deep(16), mark(slices.Repeat([]string{"f"}, 16)...), api.OK)
	for _, n := range []int{17, 18, 19, 100, 100000} {
		wrong(t, deep(n), api.ErrSite)
		wrong(t, deep(n)+" ", api.ErrLine)
		wrong(t, deep(n)+` "f`, api.ErrLine)
		wrong(t, deep(n)+` "\x66"`, api.ErrLine)
		wrong(t, deep(n)+`""`, api.ErrLine)
		wrong(t, strings.Replace(deep(n), "0 mark", "65536 mark", 1), api.ErrG)
	}
	for _, sign := range []string{"x", "\n", "\x00", "\xff", "é", `\`} {
		long := strings.Repeat(sign, api.MaxSite/len(sign))
		lines(t, mark("f", long, long), "0 mark 0x0 0 \"f\" "+plainQuote(long)+" "+plainQuote(long))
		wrong(t, plainLine(mark("f", long+"x", "main")), api.ErrSite)
		wrong(t, plainLine(mark("f", "main", long+long))+" x", api.ErrLine)
		wrong(t, plainLine(mark(strings.Repeat(long, 20))), api.ErrSite)
	}
}

// TestErrorsInOrder: what is no line goes ahead of every refusal of an event, and these come as event.Check tells
// them.
func TestErrorsInOrder(t *testing.T) {
	deep := strings.Repeat(` ""`, 17)
	for _, c := range []struct {
		s     string
		fault api.Errno
	}{
		{"9223372036854775807 fork 0x1 0" + deep, api.ErrG},
		{"65536 fork 0x1 0" + deep, api.ErrG},
		{"65535 fork 0x1 0" + deep, api.ErrObj},
		{"65535 fork 0x0 0" + deep, api.ErrSize},
		{"65535 fork 0x0 1" + deep, api.ErrSite},
		{"3 write 0xffffffffffffffff 2", api.ErrObj},
		{"3 write 0xffffffffffffffff 65", api.ErrSize},
		{"3 recv 0x7 2", api.ErrSize},
		{"3 add 0x7 4294967295", api.ErrSize},
		{"3 acquire 0x7 18446744073709551615", api.ErrSize},
	} {
		wrong(t, c.s, c.fault)
		for _, s := range []string{" " + c.s, c.s + " ", c.s + ` "`, c.s + "\n", c.s + ` x`, strings.Replace(c.s, " 0x", "  0x", 1), strings.Replace(c.s, " 0x", " 0x0", 1), strings.Replace(c.s, " 0x", "s 0x", 1), "0" + c.s, "-" + c.s} {
			wrong(t, s, api.ErrLine)
		}
	}
}

// parts are, for each part of a line, ways to write one; mostly wrong ones.
func parts() [][]string {
	const long = "0000000000000000"
	return [][]string{
		{"3", "0", "10", "65535", "65536", "9223372036854775807", "9223372036854775808", "9223372036854775809", "18446744073709551615", "18446744073709551616", "18446744073709551619", "340282366920938463463374607431768211459", "", "03", "00", long + "3", "-3", "+3", "-0", "+0", "3-", "0x3", "3.0", "3.", ".3", "3e0", "3_0", "_3", "3,", "x", "g3", `"3"`, "\x33\x00", "٣", "３", "3\t", "\t3", "3 3", "3\n", "\n3", "three", "0b1", "0o7"},
		{"write", "read", "acquire", "release", "racquire", "rrelease", "fork", "join", "make", "send", "ack", "recv", "close", "add", "wait", "once", "load", "store", "swap", "alloc", "free", "mark", "", "wrote", "Write", "WRITE", "wRite", "writ", "rite", "writes", "write\t", "write,", "write:", `"write"`, "2", "22", "0", "wrіte", "write\x00", "write write", "write\n", "none", "lock"},
		{"0x1f", "0x0", "0x10", "0xabcdef", "0xffffffffffffffff", "0x10000000000000000", "0x1000000000000001f", "0xffffffffffffffffff", "", "0x", "0x01f", "0x00", "0x" + long + "1f", "0x1F", "0xABCDEF", "0xaB", "0X1f", "0x1g", "1f", "31", "0", "x1f", "00x1f", "0x0x1f", "-0x1f", "+0x1f", "0x-1f", "0x+1f", "0x-0", "0x+0", "0x1_f", "0x_1f", "0x1f.", "0x1.8p0", "0x 1f", "0 x1f", "0x1f\t", "0x1f 0x1f", "#1f", "$1f", "1fh", "0b11111", "0o37", "037", "0x\x001f", "0x１f"},
		{"8", "0", "1", "64", "65", "65536", "4294967295", "18446744073709551614", "18446744073709551615", "18446744073709551616", "18446744073709551624", "340282366920938463463374607431768211464", "", "08", "00", long + "8", "-8", "+8", "-0", "+0", "-1", "0x8", "8.0", "8.", "8e0", "8_0", "_8", "8,", "8u", "x", `"8"`, "٨", "８", "8\t", "8\r", "8\n", "8 8", "8 ", "8\x00", "0b1", "0o7", "010"},
		{"", ` "f"`, ` "f" "main"`, ` ""`, ` "a b" "\"" "\\"`, ` "\x00\xff"`, ` "é"`, " ", "  ", `"f"`, `  "f"`, ` "f" `, ` "f"  "main"`, ` "f""main"`, ` "f",  "main"`, ` "f", "main"`, ` "f" main`, ` f "main"`, ` f`, ` "f`, ` f"`, ` "f" "`, ` "f" "main`, ` 'f'`, " `f`", " `f` \"main\"", ` 'f' "main"`, ` "\x66"`, ` "\q"`, ` "f\"`, ` "f\" "main"`, "\t\"f\"", " \"f\"\t\"main\"", " \"f\"\n", " \"f\"\r", " \"f\" \n\"main\"", " \"f\n\"", " \"\x80\"", " \"\xc2\x80\"", `"f" "main"`, `""`, ` "" ""  ""`, ` "f" # a word`, ` // "f"`, strings.Repeat(` "f"`, 16), strings.Repeat(` "f"`, 17), strings.Repeat(` ""`, 40), strings.Repeat(` "f"`, 17) + " f"},
	}
}

// TestParts: each way to write a part with each way to write another one, held against a plain reading.
func TestParts(t *testing.T) {
	all, seen := parts(), samples.Seen{}
	for a := range all {
		for b := range a {
			for _, one := range all[a] {
				for _, other := range all[b] {
					p := []string{"3", "write", "0x1f", "8", ` "f"`}
					p[a], p[b] = one, other
					s := strings.Join(p[:4], " ") + p[4]
					want, fault := plainParseLine(s)
					seen[fault]++
					parses(t, s, want, fault)
				}
			}
		}
	}
	if rare := seen.Rare(api.OK, api.ErrLine, api.ErrG, api.ErrObj, api.ErrSize, api.ErrSite); len(rare) > 0 {
		t.Errorf("seldom met: %v", rare)
	}
}

// TestBlanks: each blank of a line missing, doubled, and exchanged for something else; each part missing and
// doubled.
func TestBlanks(t *testing.T) {
	for _, line := range []string{"3 write 0x1f 8", `3 write 0x1f 8 "f" "main"`, `3 write 0x1f 8 "a b"`} {
		parts := strings.Split(line, " ")
		for k := range parts {
			missing := slices.Delete(slices.Clone(parts), k, k+1)
			doubled := slices.Insert(slices.Clone(parts), k, parts[k])
			if k < 4 {
				wrong(t, strings.Join(missing, " "), api.ErrLine)
				wrong(t, strings.Join(doubled, " "), api.ErrLine)
			}
			ahead, behind := strings.Join(parts[:k], " "), strings.Join(parts[k:], " ")
			for _, s := range []string{"", "  ", "   ", "\t", "\n", " \t", ",", "\u00a0", "\u2003", "_", "\x00"} {
				if k > 0 && parts[k] != `b"` {
					wrong(t, ahead+s+behind, api.ErrLine)
				}
			}
		}
		for _, s := range []string{" ", "  ", "\t", "\n", "\r", "\r\n", "\x00", "\ufeff", "\u00a0", ";", "#", `"`} {
			wrong(t, s+line, api.ErrLine)
			wrong(t, line+s, api.ErrLine)
			wrong(t, s+line+s, api.ErrLine)
		}
		wrong(t, line+line, api.ErrLine)
		wrong(t, line+" "+line, api.ErrLine)
		wrong(t, line+"\n"+line, api.ErrLine)
	}
}

// TestLinesThereAndBack: events of all sorts; no two have one line, and none has a line's end in it.
func TestLinesThereAndBack(t *testing.T) {
	r := rand.New(rand.NewSource(2311))
	seen := map[string]api.Event{}
	for range 30000 {
		e := samples.Event(r.Intn, 5)
		for k := range e.Stack {
			if r.Intn(2) == 0 {
				e.Stack[k] = someText(r)
			}
		}
		line := plainLine(e)
		lines(t, e, line)
		if other, is := seen[line]; is && !event.Same(e, other) {
			t.Errorf("P23.7: %v and %v have one line", e, other)
		}
		if strings.Contains(line, "\n") {
			t.Errorf("P23.8: the line %q has an end in it", line)
		}
		if seen[line] = e; t.Failed() {
			t.FailNow()
		}
	}
}

// TestDamagedLines: lines changed a little, held against a plain reading; what is read has just this line.
func TestDamagedLines(t *testing.T) {
	r := rand.New(rand.NewSource(2312))
	seen := samples.Seen{}
	for range 200000 {
		s := edited(r, plainLine(samples.Event(r.Intn, 3)))
		want, fault := plainParseLine(s)
		seen[fault]++
		parses(t, s, want, fault)
		if fault == api.OK {
			lines(t, want, s)
		}
		if t.Failed() {
			t.FailNow()
		}
	}
	if rare := seen.Rare(api.OK, api.ErrLine, api.ErrG, api.ErrObj, api.ErrSize); len(rare) > 0 {
		t.Errorf("seldom met: %v", rare)
	}
}

// TestAllShortLines: each text of a few pieces behind a line's beginning, held against a plain reading.
func TestAllShortLines(t *testing.T) {
	good := 0
	for _, ahead := range []string{"", "1 mark 0x2 3"} {
		pieces := []string{" ", `"`, `\`, "n", "0", `""`, "7", "mark", "0x", "\xff"}
		for _, list := range samples.AllLists(5, pieces...) {
			s := ahead + strings.Join(list, "")
			want, fault := plainParseLine(s)
			if parses(t, s, want, fault); t.Failed() {
				t.FailNow()
			}
			if fault == api.OK {
				good++
			}
		}
	}
	if good < 50 {
		t.Errorf("the test met %d lines only", good)
	}
}
