package strtab_test

import (
	"math"
	"math/rand"
	"slices"
	"strings"
	"testing"

	"hindsight/api"
	"hindsight/samples"
	"hindsight/strtab"
)

// plain is a table as the promises word it: a list, gone through for each question.
type plain []string

func (p plain) find(s string) (int, bool) {
	k := slices.Index(p, s)
	return max(k, 0), k >= 0
}

func (p plain) bytes() int {
	return len(strings.Join(p, ""))
}

func (p *plain) intern(s string) (int, api.Errno) {
	if id, ok := p.find(s); ok {
		return id, api.OK
	}
	if len(s) > 65536 || len(*p) == 65536 || p.bytes()+len(s) > 4194304 {
		return 0, api.ErrLarge
	}
	*p = append(*p, s)
	return len(*p) - 1, api.OK
}

// table is a table of strings that are all unlike.
func table(t *testing.T, list ...string) *strtab.Table {
	t.Helper()
	x := strtab.New()
	for k, s := range list {
		if id, e := x.Intern(s); id != k || e != api.OK {
			t.Fatalf("P4.2: Intern(%.20q) = %d, %d, want %d", s, id, e, k)
		}
	}
	return x
}

// hold holds a table against a list: all that can be asked of it.
func hold(t *testing.T, promise string, x *strtab.Table, want []string) {
	t.Helper()
	if x == nil {
		t.Fatalf("%s: no table", promise)
	}
	if n := len(strings.Join(want, "")); x.Len() != len(want) || x.Bytes() != n {
		t.Fatalf("%s: Len %d, Bytes %d, want %d, %d", promise, x.Len(), x.Bytes(), len(want), n)
	}
	for k, s := range want {
		if id, ok := x.Find(s); id != k || !ok {
			t.Fatalf("%s: Find(%.20q) = %d, %v, want %d", promise, s, id, ok, k)
		}
		if got, e := x.Text(k); got != s || e != api.OK {
			t.Fatalf("%s: Text(%d) = %.20q, %d, want %.20q", promise, k, got, e, s)
		}
	}
	for _, id := range []int{len(want), len(want) + 1, -1, math.MaxInt, math.MinInt} {
		if got, e := x.Text(id); got != "" || e != api.ErrString {
			t.Fatalf("%s: Text(%d) of %d strings = %.20q, %d", promise, id, len(want), got, e)
		}
	}
}

// TestExamples: those of the chapter that are about numbers of strings.
func TestExamples(t *testing.T) {
	x := strtab.New()
	for _, c := range []struct {
		s  string
		id int
	}{{"a", 0}, {"b", 1}, {"a", 0}, {"", 2}} {
		if id, e := x.Intern(c.s); id != c.id || e != api.OK {
			t.Errorf("P4.2: Intern(%q) = %d, %d, want %d", c.s, id, e, c.id)
		}
	}
	if x.Len() != 3 || x.Bytes() != 2 {
		t.Errorf("P4.3: Len %d, Bytes %d", x.Len(), x.Bytes())
	}
	if id, ok := x.Find("b"); id != 1 || !ok {
		t.Errorf("P4.3: Find(b) = %d, %v", id, ok)
	}
	if id, ok := x.Find("c"); id != 0 || ok {
		t.Errorf("P4.3: Find(c) = %d, %v", id, ok)
	}
	hold(t, "P4.3", x, []string{"a", "b", ""})
	if id, e := x.Intern(strings.Repeat("x", 65537)); id != 0 || e != api.ErrLarge {
		t.Errorf("P4.2: Intern of 65537 bytes = %d, %d", id, e)
	}
	if id, e := x.Intern(strings.Repeat("x", 65536)); id != 3 || e != api.OK {
		t.Errorf("P4.2: Intern of 65536 bytes = %d, %d", id, e)
	}
}

func TestNew(t *testing.T) {
	hold(t, "P4.1", strtab.New(), nil)
	if id, ok := strtab.New().Find(""); id != 0 || ok {
		t.Errorf("P4.1: Find() of a table without strings = %d, %v", id, ok)
	}
	if bodies, e := strtab.New().Encode(api.MinLimit); len(bodies) != 0 || e != api.OK {
		t.Errorf("P4.1: Encode of a table without strings = %v, %d", bodies, e)
	}
}

// TestAnyBytes: what is no text, and what differs in one byte, are strings as others are.
func TestAnyBytes(t *testing.T) {
	list := []string{"\xff", "\xfe", "\x00", "", "\x00\x00", "é", "e\u0301", "\xc3", "\xef\xbf\xbd", "a", "A", "a "}
	for c := range 256 {
		list = append(list, "b"+string([]byte{byte(c)}))
	}
	hold(t, "P4.2", table(t, list...), list)
}

// someString is one of few enough that many come again.
func someString(r *rand.Rand) string {
	b := make([]byte, r.Intn(4))
	for k := range b {
		b[k] = "ab\x00\xff"[r.Intn(4)]
	}
	return string(b)
}

// TestNumbersOfFirstUse holds a growing table, behind every call, against a plain one.
func TestNumbersOfFirstUse(t *testing.T) {
	r := rand.New(rand.NewSource(41))
	for range 60 {
		x, p := strtab.New(), plain{}
		for range 1 + r.Intn(150) {
			s := someString(r)
			asked, there := x.Find(s)
			if id, ok := p.find(s); asked != id || there != ok {
				t.Fatalf("P4.3: Find(%q) = %d, %v, want %d, %v", s, asked, there, id, ok)
			}
			if r.Intn(4) == 0 {
				x.Encode(64 + r.Intn(10))
			}
			before := len(p)
			want, _ := p.intern(s)
			if id, e := x.Intern(s); id != want || e != api.OK {
				t.Fatalf("P4.7: Intern(%q) of %d strings = %d, %d, want %d", s, before, id, e, want)
			}
			hold(t, "P4.7", x, p)
		}
	}
}

// refused holds that a table does not take a string, and stays as it was.
func refused(t *testing.T, x *strtab.Table, s string) {
	t.Helper()
	n, size := x.Len(), x.Bytes()
	before, _ := x.Encode(api.MaxLimit)
	if id, e := x.Intern(s); id != 0 || e != api.ErrLarge {
		t.Errorf("P4.2: Intern of %d bytes into %d strings of %d bytes = %d, %d, want ErrLarge", len(s), n, size, id, e)
	}
	if id, ok := x.Find(s); id != 0 || ok {
		t.Errorf("P0.2: a string that was refused is found: %d, %v", id, ok)
	}
	if after, _ := x.Encode(api.MaxLimit); x.Len() != n || x.Bytes() != size || !sameBodies(before, after) {
		t.Errorf("P0.2: a string that was refused has changed the table")
	}
}

// taken holds that a table takes a new string.
func taken(t *testing.T, x *strtab.Table, s string) {
	t.Helper()
	n, size := x.Len(), x.Bytes()
	if id, e := x.Intern(s); id != n || e != api.OK {
		t.Errorf("P4.2: Intern of %d bytes into %d strings of %d bytes = %d, %d", len(s), n, size, id, e)
	}
	if x.Len() != n+1 || x.Bytes() != size+len(s) {
		t.Errorf("P4.3: Len %d, Bytes %d behind a string of %d bytes more", x.Len(), x.Bytes(), len(s))
	}
}

func TestLongStrings(t *testing.T) {
	x := table(t, "a")
	refused(t, x, strings.Repeat("x", api.MaxSite+1))
	refused(t, x, strings.Repeat("x", api.MaxText))
	refused(t, x, strings.Repeat("x", api.MaxText+1))
	taken(t, x, strings.Repeat("x", api.MaxSite-1))
	taken(t, x, strings.Repeat("x", api.MaxSite))
	refused(t, x, strings.Repeat("x", api.MaxSite+1))
}

func TestManyStrings(t *testing.T) {
	list := samples.Numbered(api.MaxStrings)
	x := table(t, list[:api.MaxStrings-1]...)
	taken(t, x, list[api.MaxStrings-1])
	refused(t, x, "")
	refused(t, x, "a")
	refused(t, x, strings.Repeat("x", api.MaxSite+1))
	for k, s := range list {
		if id, e := x.Intern(s); id != k || e != api.OK {
			t.Fatalf("P4.2: an old string of a table of MaxStrings: %d, %d, want %d", id, e, k)
		}
	}
	hold(t, "P4.7", x, list)
}

func TestMuchText(t *testing.T) {
	list := samples.Longest(api.MaxText / api.MaxSite)
	last := len(list) - 1
	x := table(t, list[:last]...)
	taken(t, x, list[last][1:])
	refused(t, x, "xy")
	refused(t, x, list[last])
	taken(t, x, "x")
	if x.Bytes() != api.MaxText {
		t.Fatalf("P4.3: Bytes %d", x.Bytes())
	}
	refused(t, x, "y")
	taken(t, x, "")
	refused(t, x, "y")
	for _, s := range []string{"", "x", list[0], list[last][1:]} {
		want, _ := x.Find(s)
		if id, e := x.Intern(s); id != want || e != api.OK {
			t.Errorf("P4.2: an old string of a table of MaxText bytes: %d, %d, want %d", id, e, want)
		}
	}
}

func TestNoTable(t *testing.T) {
	var x *strtab.Table
	for _, s := range []string{"", "a", strings.Repeat("x", api.MaxSite+1)} {
		if id, e := x.Intern(s); id != 0 || e != api.ErrNil {
			t.Errorf("P4.8: Intern on nil = %d, %d", id, e)
		}
		if id, ok := x.Find(s); id != 0 || ok {
			t.Errorf("P4.8: Find on nil = %d, %v", id, ok)
		}
	}
	for _, n := range []int{0, -1, 64, math.MaxInt} {
		if s, e := x.Text(n); s != "" || e != api.ErrNil {
			t.Errorf("P4.8: Text(%d) on nil = %q, %d", n, s, e)
		}
		if b, e := x.Encode(n); len(b) != 0 || e != api.ErrNil {
			t.Errorf("P4.8: Encode(%d) on nil = %v, %d", n, b, e)
		}
	}
	if x.Len() != 0 || x.Bytes() != 0 {
		t.Errorf("P4.8: Len %d, Bytes %d on nil", x.Len(), x.Bytes())
	}
}

// TestTableOfNobody: one that New did not make does not panic, and is a table without strings.
func TestTableOfNobody(t *testing.T) {
	x := new(strtab.Table)
	hold(t, "P0.1", x, nil)
	if id, ok := x.Find(""); id != 0 || ok {
		t.Errorf("P0.1: Find = %d, %v", id, ok)
	}
	if b, e := x.Encode(64); len(b) != 0 || e != api.OK {
		t.Errorf("P0.1: Encode = %v, %d", b, e)
	}
	taken(t, x, "a")
	hold(t, "P0.1", x, []string{"a"})
}
