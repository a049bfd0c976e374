package samples_test

import (
	"maps"
	"math/rand"
	"slices"
	"testing"

	"hindsight/api"
	"hindsight/check"
	"hindsight/crc"
	"hindsight/event"
	"hindsight/frame"
	"hindsight/samples"
)

// TestUnlike: tests lean on it that the strings are unlike, and as long as they are said to be.
func TestUnlike(t *testing.T) {
	for size, list := range map[int][]string{2: samples.Numbered(api.MaxStrings), api.MaxSite: samples.Longest(64)} {
		seen := map[string]int{}
		for _, s := range list {
			seen[s]++
			if seen[s] > 1 || len(s) != size {
				t.Fatalf("a string of %d bytes, %d times", len(s), seen[s])
			}
		}
	}
}

func TestAllBodies(t *testing.T) {
	list := samples.AllBodies(3, 7, 9)
	seen := map[string]int{}
	for _, b := range list {
		seen[string(b)]++
	}
	if len(list) != 1+2+4+8 || len(seen) != len(list) || seen["\x07\x09\x09"] != 1 {
		t.Errorf("%d bodies, %d unlike ones", len(list), len(seen))
	}
}

func TestRare(t *testing.T) {
	seen := samples.Seen{}
	for range 19 {
		seen[api.ErrEnd]++
		seen[api.ErrLong]++
	}
	seen[api.ErrLong]++
	if rare := seen.Rare(api.ErrLong, api.ErrEnd, api.ErrOver); !slices.Equal(rare, []api.Errno{api.ErrEnd, api.ErrOver}) {
		t.Errorf("rare are %v", rare)
	}
}

// TestDamage: each of the ways changes what it says, with the choices that a list tells.
func TestDamage(t *testing.T) {
	for _, c := range []struct {
		picks []int // the body, the place, the way, and what the way asks for
		want  [][]byte
	}{
		{[]int{0, 2, 0}, [][]byte{{1, 2}, {4, 5}}},
		{[]int{0, 1, 1, 200}, [][]byte{{1, 200, 2, 3}, {4, 5}}},
		{[]int{1, 2, 2, 3}, [][]byte{{1, 2, 3}, {4, 5, 255, 255, 255}}},
		{[]int{0, 2, 3, 2}, [][]byte{{1, 2}, {4, 5}}},
		{[]int{0, 1, 4, 2}, [][]byte{{1, 4, 3}, {4, 5}}},
		{[]int{0, 3, 4}, [][]byte{{1, 2, 3}, {4, 5}}},
		{[]int{0, 2, 5, 9}, [][]byte{{1, 2}, {9, 3}, {4, 5}}},
		{[]int{0, 0, 6}, [][]byte{{1, 2, 3, 5}}},
		{[]int{1, 0, 6}, [][]byte{{1, 2, 3}, {4, 5}}},
		{[]int{1, 0, 7}, [][]byte{{1, 2, 3}, {4, 5}, {4, 5}}},
		{[]int{0, 0, 8}, [][]byte{{4, 5}}},
	} {
		next, whole := 0, [][]byte{{1, 2, 3}, {4, 5}}
		got := samples.Damage(func(below int) int {
			next++
			return c.picks[next-1]
		}, whole)
		if !slices.EqualFunc(got, c.want, slices.Equal) {
			t.Errorf("the choices %v: %v, want %v", c.picks, got, c.want)
		}
		if !slices.EqualFunc(whole, [][]byte{{1, 2, 3}, {4, 5}}, slices.Equal) {
			t.Errorf("the choices %v: what was handed in is %v", c.picks, whole)
		}
	}
}

// TestRow: tests lean on it that the records may be and that their stamps rise, also at the largest steps.
func TestRow(t *testing.T) {
	for name, pick := range map[string]func(int) int{
		"anything":     rand.New(rand.NewSource(1)).Intn,
		"the least":    func(int) int { return 0 },
		"the greatest": func(below int) int { return below - 1 },
	} {
		row := samples.Row(pick, 300000)
		last := -1
		for _, r := range row {
			if r.Stamp <= last || r.Stamp >= api.MaxEvents || r.Kind < 1 || r.Kind > 22 || r.Stack < 0 || r.Stack > api.MaxNodes {
				t.Fatalf("%s: %v behind the stamp %d", name, r, last)
			}
			last = r.Stamp
		}
		if len(row) != 300000 {
			t.Errorf("%s: %d records", name, len(row))
		}
	}
}

func TestRoomyAndSpoil(t *testing.T) {
	list, whole := samples.Roomy([][]byte{{1, 2}, nil})
	if len(list) != 2 || !slices.Equal(list[0], []byte{1, 2}) || len(list[1]) != 0 || len(whole[0]) != 22 || len(whole[1]) != 20 {
		t.Fatalf("%v, %v", list, whole)
	}
	samples.Spoil(list[0], 99)
	if slices.ContainsFunc(whole[0], func(b byte) bool { return b != 99 }) || slices.Contains(whole[1], 99) {
		t.Errorf("the whole is %v", whole)
	}
}

// TestTraces: tests lean on it that traces are within bounds, and that there are goroutines, stacks and
// limits of all sorts among them.
func TestTraces(t *testing.T) {
	r := rand.New(rand.NewSource(2))
	gs, depths, limits := map[int]int{}, map[int]int{}, map[int]int{}
	for range 200 {
		trace := samples.Trace(r.Intn, 60)
		if at, e := event.Bounds(trace); e != api.OK || len(trace) > 60 {
			t.Fatalf("a trace of %d events: %d, %d", len(trace), at, e)
		}
		for _, e := range trace {
			gs[e.G]++
			depths[len(e.Stack)]++
		}
		limit := samples.Limit(r.Intn)
		if limit < api.MinLimit || limit > api.MaxLimit {
			t.Fatalf("the limit %d", limit)
		}
		limits[limit]++
	}
	if gs[0] == 0 || gs[1] == 0 || gs[2] != 0 || gs[api.MaxG-1] == 0 || depths[0] == 0 || depths[api.MaxDepth] == 0 || limits[api.MinLimit] == 0 || limits[api.MaxLimit] == 0 {
		t.Errorf("goroutines %v, depths %v, limits %v", gs, depths, limits)
	}
	if at, e := event.Bounds(samples.Events(r.Intn, 10000, 9)); e != api.OK {
		t.Errorf("a long trace: %d, %d", at, e)
	}
}

// TestMoves: tests lean on it that moves are good events, of just the kinds that were asked for, each of
// them, and of no more goroutines.
func TestMoves(t *testing.T) {
	r := rand.New(rand.NewSource(3))
	for _, kinds := range [][]int{samples.Kinds(), {api.Send, api.Ack}, {api.Join}} {
		for goroutines := 2; goroutines < 6; goroutines++ {
			seen := map[int]int{}
			for range 2000 {
				e := samples.Move(r.Intn, goroutines, kinds...)
				seen[e.Kind]++
				named := e.Kind == api.Fork || e.Kind == api.Join
				if event.Check(e) != api.OK || e.G >= goroutines || named && int(e.Arg) >= goroutines || !slices.Contains(kinds, e.Kind) {
					t.Fatalf("of %d goroutines, the kinds %v: %v", goroutines, kinds, e)
				}
			}
			if len(seen) != len(kinds) {
				t.Errorf("of the kinds %v came %v", kinds, seen)
			}
		}
	}
	if len(samples.Kinds()) != 22 {
		t.Errorf("the kinds %v", samples.Kinds())
	}
}

func TestSealed(t *testing.T) {
	fs := []api.Frame{{Kind: 1, Ord: 7, Body: []byte{1, 2}}, {Kind: 4, Stream: 3, Body: []byte{9}}, {Kind: 5, Body: []byte{4}}}
	got, at, e := frame.Split(samples.Sealed(fs))
	if e != api.OK || at != 22+21+25 || len(got) != 3 || got[0].Ord != 0 || got[1].Ord != 1 || got[2].Ord != 2 || got[1].Stream != 3 {
		t.Fatalf("%v, %d, %d", got, at, e)
	}
	if foot, e := frame.DecodeFoot(got[2].Body); e != api.OK || foot != (api.Foot{Frames: 2, Sum: crc.Sum([]byte{1, 2, 9})}) {
		t.Errorf("the foot %v, %d", foot, e)
	}
	if fs[0].Ord != 7 || fs[2].Body[0] != 4 {
		t.Errorf("the frames that were handed in are %v", fs)
	}
}

// TestRuns: tests lean on it that these are runs, of just the kinds that were asked for, and not a few
// of them as long as they may be.
func TestRuns(t *testing.T) {
	r := rand.New(rand.NewSource(4))
	for _, kinds := range samples.Focus() {
		seen, full := map[int]int{}, 0
		for range 300 {
			run := samples.Run(r.Intn, 60, 2+r.Intn(4), kinds...)
			if at, _, fault := check.Run(run); at != -1 || fault != api.OK || len(run) > 60 {
				t.Fatalf("no run, or too long a one: %v", run)
			}
			if len(run) == 60 {
				full++
			}
			for _, e := range run {
				seen[e.Kind]++
			}
		}
		unlike := slices.Compact(slices.Sorted(slices.Values(kinds)))
		if !slices.Equal(slices.Sorted(maps.Keys(seen)), unlike) || full < 30 {
			t.Errorf("of the kinds %v came %v, and %d runs were full", kinds, seen, full)
		}
	}
	if run := samples.Run(r.Intn, 0, 2, api.Mark); len(run) != 0 {
		t.Errorf("a run of no events: %v", run)
	}
}
