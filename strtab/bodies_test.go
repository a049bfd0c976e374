package strtab_test

import (
	"bytes"
	"fmt"
	"math"
	"math/rand"
	"slices"
	"strings"
	"testing"

	"hindsight/api"
	"hindsight/samples"
	"hindsight/strtab"
	"hindsight/wire"
)

func sameBodies(a, b [][]byte) bool {
	return slices.EqualFunc(a, b, bytes.Equal)
}

func record(s string) []byte {
	return append(wire.Uvarint(uint64(len(s))), s...)
}

// body is a body as the chapter words it.
func body(first int, list ...string) []byte {
	out := wire.Uvarint(uint64(first))
	for _, s := range list {
		out = append(out, record(s)...)
	}
	return out
}

// bodiesOf puts one string behind the other: into the last body, if that has room, else into a new one.
func bodiesOf(list []string, limit int) [][]byte {
	var out [][]byte
	for k, s := range list {
		if n := len(out); n > 0 && len(out[n-1])+len(record(s)) <= limit {
			out[n-1] = append(out[n-1], record(s)...)
			continue
		}
		out = append(out, body(k, s))
	}
	return out
}

// readPlain reads bodies by the rules of P4.5, one word behind the other.
func readPlain(bodies [][]byte, limit int) (plain, api.Errno) {
	if limit < 64 || limit > 1048576 {
		return nil, api.ErrArg
	}
	var list plain
	for _, b := range bodies {
		first, at, e := wire.ReadUvarint(b, 0)
		if e != api.OK {
			return nil, e
		}
		if first != uint64(len(list)) {
			return nil, api.ErrForm
		}
		b = b[at:]
		if len(b) == 0 {
			return nil, api.ErrForm
		}
		for len(b) > 0 {
			size, at, e := wire.ReadUvarint(b, 0)
			if e != api.OK {
				return nil, e
			}
			if size > 65536 {
				return nil, api.ErrLarge
			}
			b = b[at:]
			if uint64(len(b)) < size {
				return nil, api.ErrTake
			}
			s := string(b[:size])
			if slices.Contains(list, s) {
				return nil, api.ErrTwice
			}
			if _, e := list.intern(s); e != api.OK {
				return nil, e
			}
			b = b[size:]
		}
	}
	if !sameBodies(bodies, bodiesOf(list, limit)) {
		return nil, api.ErrChunk
	}
	return list, api.OK
}

// bothWays holds a list against its bodies, written and read.
func bothWays(t *testing.T, list []string, limit int, want [][]byte) {
	t.Helper()
	x := table(t, list...)
	got, e := x.Encode(limit)
	if e != api.OK || !sameBodies(got, want) {
		t.Fatalf("P4.4: Encode(%d) of %d strings: %d bodies, %d, want %d", limit, len(list), len(got), e, len(want))
	}
	hold(t, "P4.4", x, list)
	y, e := strtab.Decode(got, limit)
	if e != api.OK {
		t.Fatalf("P4.6: Decode of what Encode(%d) answered = %d", limit, e)
	}
	hold(t, "P4.6", y, list)
	if again, e := y.Encode(limit); e != api.OK || !sameBodies(again, want) {
		t.Fatalf("P4.6: Encode(%d) of what was decoded: %d bodies, %d, want %d", limit, len(again), e, len(want))
	}
}

func TestEncodeExamples(t *testing.T) {
	x61, x200 := strings.Repeat("x", 61), strings.Repeat("y", 200)
	for _, c := range []struct {
		list []string
		want [][]byte
	}{
		{nil, nil},
		{[]string{""}, [][]byte{{0, 0}}},
		{[]string{"a", "b", ""}, [][]byte{{0, 1, 97, 1, 98, 0}}},
		{[]string{x61, "b"}, [][]byte{append([]byte{0, 61}, x61...), {1, 1, 98}}},
		{[]string{x61, ""}, [][]byte{append(append([]byte{0, 61}, x61...), 0)}},
		{[]string{x200}, [][]byte{append([]byte{0, 200, 1}, x200...)}},
		{[]string{"a", x200, "", "b"}, [][]byte{{0, 1, 97}, append([]byte{1, 200, 1}, x200...), {2, 0, 1, 98}}},
	} {
		bothWays(t, c.list, 64, c.want)
		if want := bodiesOf(c.list, 64); !sameBodies(c.want, want) {
			t.Errorf("the test's own bodies are not those of the chapter: %v", want)
		}
	}
}

func TestWrongLimits(t *testing.T) {
	for _, limit := range []int{63, 0, 1, -1, -64, 1048577, 1 << 21, math.MaxInt, math.MinInt} {
		for _, x := range []*strtab.Table{strtab.New(), table(t, "a", "b")} {
			if b, e := x.Encode(limit); len(b) != 0 || e != api.ErrArg {
				t.Errorf("P4.4: Encode(%d) = %v, %d", limit, b, e)
			}
		}
		for _, bodies := range [][][]byte{nil, {{}}, {{9}}, {{0, 1, 97}}, {{0, 1, 97}, {1, 1, 97}}} {
			if x, e := strtab.Decode(bodies, limit); x != nil || e != api.ErrArg {
				t.Errorf("P4.5: Decode(%v, %d) = %v, %d", bodies, limit, x, e)
			}
		}
	}
	bothWays(t, []string{"a"}, api.MinLimit, [][]byte{{0, 1, 97}})
	bothWays(t, []string{"a"}, api.MaxLimit, [][]byte{{0, 1, 97}})
}

// TestRoomOfBodies fills a body with two strings up to, and past, its last byte. (Past 127 bytes a
// length is one byte longer, so what fits is not one string's length less another's alone.)
func TestRoomOfBodies(t *testing.T) {
	for _, limit := range []int{64, 65, 127, 128, 129, 130, 131, 132, 200, 256, 300} {
		one, two := 0, 0
		for a := range limit + 3 {
			for _, b := range []int{limit - a - 5, limit - a - 4, limit - a - 3, limit - a - 2, 0, 127, 128} {
				if b < 0 || a == b {
					continue
				}
				list := []string{strings.Repeat("x", a), strings.Repeat("y", b)}
				want := [][]byte{body(0, list...)}
				if len(want[0]) > limit {
					want = [][]byte{body(0, list[0]), body(1, list[1])}
					two++
				} else {
					one++
				}
				bothWays(t, list, limit, want)
			}
		}
		if one == 0 || two == 0 {
			t.Errorf("the limit %d: %d in one body, %d in two", limit, one, two)
		}
	}
}

// TestBeginningsCount: the number that begins a body takes two bytes from 128 on, and three from 16384 on.
func TestBeginningsCount(t *testing.T) {
	for _, c := range []struct{ ahead, room int }{{127, 61}, {128, 60}, {16383, 60}, {16384, 59}} {
		// Strings of two bytes have records of three; a long one behind them begins a body of its own.
		long, short := strings.Repeat("x", c.room), strings.Repeat("x", c.room-1)
		ahead := samples.Numbered(c.ahead)
		end := bodiesOf(ahead, 64)
		bothWays(t, slices.Concat(ahead, []string{long, ""}), 64, append(slices.Clone(end), body(c.ahead, long, "")))
		bothWays(t, slices.Concat(ahead, []string{long, "y"}), 64, append(slices.Clone(end), body(c.ahead, long), body(c.ahead+1, "y")))
		bothWays(t, slices.Concat(ahead, []string{short, "y"}), 64, append(slices.Clone(end), body(c.ahead, short, "y")))
	}
}

func TestGreatestLimit(t *testing.T) {
	// 15 records of 65539 bytes and the body's beginning leave 65490 bytes, with a length of three.
	list := append(samples.Longest(15), strings.Repeat("x", 65487))
	whole := body(0, list...)
	if len(whole) != api.MaxLimit {
		t.Fatalf("the test's own body has %d bytes", len(whole))
	}
	bothWays(t, list, api.MaxLimit, [][]byte{whole})
	bothWays(t, list, api.MaxLimit-1, [][]byte{body(0, list[:15]...), body(15, list[15])})
	bothWays(t, append(list, ""), api.MaxLimit, [][]byte{whole, body(16, "")})
}

// unlike is a list of at most n unlike strings, of lengths that a function tells.
func unlike(n int, length func() int) []string {
	var list []string
	seen := map[string]int{}
	for k := range n {
		size := length()
		s := strings.Repeat("z", size) + fmt.Sprint(k)
		s = s[len(s)-size:]
		if seen[s]++; seen[s] == 1 {
			list = append(list, s)
		}
	}
	return list
}

func TestManyTables(t *testing.T) {
	r := rand.New(rand.NewSource(42))
	for range 400 {
		most := []int{1, 3, 8, 70, 200, 1000}[r.Intn(6)]
		list := unlike(r.Intn(200), func() int { return r.Intn(most + 1) })
		limit := 64 + r.Intn([]int{1, 3, 80, 1000}[r.Intn(4)])
		bothWays(t, list, limit, bodiesOf(list, limit))
	}
}

func TestFullTables(t *testing.T) {
	many := samples.Numbered(api.MaxStrings)
	for _, limit := range []int{64, 65, 66, 1000, api.MaxLimit} {
		bothWays(t, many, limit, bodiesOf(many, limit))
	}
	much := append(samples.Longest(api.MaxText/api.MaxSite), "")
	for _, limit := range []int{64, 65539, 65540, 131079, 131080, api.MaxLimit} {
		bothWays(t, much, limit, bodiesOf(much, limit))
	}
}

func TestDecodeExamples(t *testing.T) {
	large := append([]byte{0, 129, 128, 4}, bytes.Repeat([]byte("x"), 65537)...)
	largest := append([]byte{0, 128, 128, 4}, bytes.Repeat([]byte("x"), 65536)...)
	for _, c := range []struct {
		bodies [][]byte
		e      api.Errno
	}{
		{nil, api.OK},
		{[][]byte{}, api.OK},
		{[][]byte{{}}, api.ErrEnd},
		{[][]byte{nil}, api.ErrEnd},
		{[][]byte{{0}}, api.ErrForm},
		{[][]byte{{1, 1, 97}}, api.ErrForm},
		{[][]byte{{0, 1, 97, 1, 97}}, api.ErrTwice},
		{[][]byte{{0, 2, 97}}, api.ErrTake},
		{[][]byte{{0, 128}}, api.ErrEnd},
		{[][]byte{{0, 1, 97}, {1, 1, 98}}, api.ErrChunk},
		{[][]byte{large}, api.ErrLarge},
		{[][]byte{largest}, api.OK},
	} {
		x, e := strtab.Decode(c.bodies, 64)
		if e != c.e || (x != nil) != (e == api.OK) {
			t.Errorf("P4.5: Decode(%.40v) = %v, %d, want %d", c.bodies, x, e, c.e)
		}
	}
	x, _ := strtab.Decode(nil, 64)
	hold(t, "P4.5", x, nil)
}

// TestFirstFault: where several things are not right, the first one of the order is told.
func TestFirstFault(t *testing.T) {
	over := bytes.Repeat([]byte{255}, 10)
	a61 := body(0, strings.Repeat("a", 61))
	for _, c := range []struct {
		name   string
		bodies [][]byte
		e      api.Errno
	}{
		{"a beginning that is cut off, ahead of a second body without bytes", [][]byte{{128}, {}}, api.ErrEnd},
		{"a beginning that is too long", [][]byte{{128, 0, 1, 97}}, api.ErrLong},
		{"a beginning of more than 64 bits", [][]byte{slices.Concat(over, []byte{1, 97})}, api.ErrOver},
		{"a beginning that is 2 to the 64 less 1", [][]byte{{255, 255, 255, 255, 255, 255, 255, 255, 255, 1, 1, 97}}, api.ErrForm},
		{"a beginning that is 2 to the 32", [][]byte{{128, 128, 128, 128, 16, 1, 97}}, api.ErrForm},
		{"another beginning, and nothing behind it", [][]byte{{5}}, api.ErrForm},
		{"another beginning, and a wrong length", [][]byte{{5, 128}}, api.ErrForm},
		{"a second body that begins with 0", [][]byte{{0, 1, 97}, {0, 1, 98}}, api.ErrForm},
		{"a second body that begins with 2", [][]byte{{0, 1, 97}, {2, 1, 98}}, api.ErrForm},
		{"a second body of its beginning alone", [][]byte{a61, {1}}, api.ErrForm},
		{"a second body without bytes", [][]byte{a61, {}}, api.ErrEnd},
		{"a length that is too long", [][]byte{{0, 129, 0, 97}}, api.ErrLong},
		{"a length of more than 64 bits", [][]byte{slices.Concat([]byte{0}, over)}, api.ErrOver},
		{"a length of 2 to the 64 less 1", [][]byte{{0, 255, 255, 255, 255, 255, 255, 255, 255, 255, 1}}, api.ErrLarge},
		{"a length of 2 to the 63", [][]byte{{0, 128, 128, 128, 128, 128, 128, 128, 128, 128, 1}}, api.ErrLarge},
		{"a length of 2 to the 32", [][]byte{{0, 128, 128, 128, 128, 16, 97}}, api.ErrLarge},
		{"a length above MaxSite, with too few bytes", [][]byte{{0, 129, 128, 4}}, api.ErrLarge},
		{"a length of MaxSite, with too few bytes", [][]byte{{0, 128, 128, 4}}, api.ErrTake},
		{"one byte too few", [][]byte{{0, 3, 97, 98}}, api.ErrTake},
		{"a string twice, then a wrong length", [][]byte{{0, 1, 97, 1, 97, 128}}, api.ErrTwice},
		{"no bytes twice", [][]byte{{0, 0, 0}}, api.ErrTwice},
		{"a string twice, in two bodies that have room in one", [][]byte{{0, 1, 97}, {1, 1, 97}}, api.ErrTwice},
		{"two bodies that have room in one, then a wrong one", [][]byte{{0, 1, 97}, {1, 1, 98}, {2}}, api.ErrForm},
		{"a body past the limit", [][]byte{append(slices.Clone(a61), 1, 98)}, api.ErrChunk},
		{"a body that could take one more", [][]byte{a61, {1, 0}}, api.ErrChunk},
		{"bodies that are cut right", [][]byte{a61, {1, 1, 98}}, api.OK},
	} {
		x, e := strtab.Decode(c.bodies, 64)
		if e != c.e || (x != nil) != (e == api.OK) {
			t.Errorf("P4.5: %s: Decode = %v, %d, want %d", c.name, x, e, c.e)
		}
		if _, want := readPlain(c.bodies, 64); want != c.e {
			t.Errorf("the test's own reading, %s: %d, want %d", c.name, want, c.e)
		}
	}
}

// TestPastFull: what comes behind the bodies of a table that takes no more.
func TestPastFull(t *testing.T) {
	many, much := samples.Numbered(api.MaxStrings), samples.Longest(api.MaxText/api.MaxSite)
	tooLong := []byte{129, 128, 4}
	for _, c := range []struct {
		name string
		list []string
		more []byte
		e    api.Errno
	}{
		{"MaxStrings, a new string", many, record("a"), api.ErrLarge},
		{"MaxStrings, the string without bytes", many, record(""), api.ErrLarge},
		{"MaxStrings, an old string", many, record(many[7]), api.ErrTwice},
		{"MaxStrings, a length without its bytes", many, []byte{2, 97}, api.ErrTake},
		{"MaxStrings, a length above MaxSite", many, tooLong, api.ErrLarge},
		{"MaxStrings, a length that is cut off", many, []byte{128}, api.ErrEnd},
		{"MaxText, a new string", much, record("a"), api.ErrLarge},
		{"MaxText, an old string", much, record(much[7]), api.ErrTwice},
		{"MaxText, a length without its bytes", much, []byte{2, 97}, api.ErrTake},
		{"MaxText, a length above MaxSite", much, tooLong, api.ErrLarge},
		{"MaxText, the string without bytes, in a body of its own", much, record(""), api.ErrChunk},
	} {
		own := append(body(len(c.list)), c.more...)
		if x, e := strtab.Decode(append(bodiesOf(c.list, api.MaxLimit), own), api.MaxLimit); e != c.e || x != nil {
			t.Errorf("P4.5: %s: Decode = %v, %d, want %d", c.name, x, e, c.e)
		}
	}
}

// readAs holds Decode against the plain reading.
func readAs(t *testing.T, seen samples.Seen, bodies [][]byte, limit int) {
	t.Helper()
	want, fault := readPlain(bodies, limit)
	x, e := strtab.Decode(bodies, limit)
	seen[e]++
	if e != fault || (x != nil) != (e == api.OK) {
		t.Fatalf("P4.5: Decode(%.99v, %d) = %v, %d, want %d", bodies, limit, x, e, fault)
	}
	if e != api.OK {
		return
	}
	hold(t, "P4.5", x, want)
	if again, e := x.Encode(limit); e != api.OK || !sameBodies(again, bodies) {
		t.Fatalf("P4.6: Encode of Decode(%.99v, %d) = %.99v, %d", bodies, limit, again, e)
	}
}

func TestEverySmallBody(t *testing.T) {
	seen := samples.Seen{}
	for _, b := range samples.AllBodies(5, 0, 1, 2, 97, 128, 255) {
		readAs(t, seen, [][]byte{b}, 64)
	}
	pairs := samples.AllBodies(3, 0, 1, 2, 97, 128, 255)
	for _, b := range pairs {
		for _, c := range pairs {
			readAs(t, seen, [][]byte{b, c}, 64)
		}
	}
	if rare := seen.Rare(api.OK, api.ErrEnd, api.ErrLong, api.ErrTake, api.ErrTwice, api.ErrForm, api.ErrChunk); len(rare) > 0 {
		t.Errorf("the errors %v were answered few times alone", rare)
	}
}

// damage changes good bodies of fewer than 128 short strings in one of many ways.
func damage(r *rand.Rand, bodies [][]byte) [][]byte {
	if r.Intn(10) > 0 {
		return samples.Damage(r.Intn, bodies)
	}
	// A body's first record comes again.
	b := bodies[r.Intn(len(bodies))]
	k := r.Intn(len(bodies))
	bodies[k] = slices.Concat(bodies[k], b[1:2+b[1]])
	return bodies
}

func TestDamagedBodies(t *testing.T) {
	r := rand.New(rand.NewSource(43))
	seen := samples.Seen{}
	for range 30000 {
		list := unlike(1+r.Intn(20), func() int { return r.Intn(25) })
		limit := 64 + r.Intn(4)
		readAs(t, seen, damage(r, bodiesOf(list, limit)), limit+r.Intn(2))
	}
	if rare := seen.Rare(api.OK, api.ErrEnd, api.ErrLong, api.ErrOver, api.ErrTake, api.ErrTwice, api.ErrLarge, api.ErrForm, api.ErrChunk); len(rare) > 0 {
		t.Errorf("the errors %v were answered few times alone", rare)
	}
}

// TestOneRowOfBodies cuts the strings of a table in every way there is: one alone is read.
func TestOneRowOfBodies(t *testing.T) {
	list := unlike(11, func() int { return 15 })
	for _, limit := range []int{64, 65, 80, 81, 100} {
		read := 0
		for cuts := range 1 << (len(list) - 1) {
			bodies := [][]byte{body(0, list[0])}
			for k, s := range list[1:] {
				if cuts>>k&1 == 1 {
					bodies = append(bodies, body(k+1, s))
					continue
				}
				last := len(bodies) - 1
				bodies[last] = append(bodies[last], record(s)...)
			}
			x, e := strtab.Decode(bodies, limit)
			if e == api.OK {
				read++
				hold(t, "P4.6", x, list)
			} else if e != api.ErrChunk {
				t.Fatalf("P4.5: strings cut otherwise: %d", e)
			}
		}
		if read != 1 {
			t.Errorf("P4.6: for the limit %d there are %d rows of bodies of one table", limit, read)
		}
	}
}
