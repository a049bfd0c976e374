package ring_test

import (
	"bytes"
	"math"
	"math/rand"
	"testing"

	"hindsight/api"
	"hindsight/file"
	"hindsight/ring"
	"hindsight/samples"
)

// TestFileOfNothing: of a ring without events: a head and a foot.
func TestFileOfNothing(t *testing.T) {
	p := newPair(t, 4)
	for _, limit := range []int{64, 65, 4096, api.MaxLimit} {
		got, e := p.ring.File(limit)
		head, f := file.Peek(got)
		if e != api.OK || f != api.OK || head != (api.Head{Limit: limit}) {
			t.Errorf("P15.5: File(%d) of a ring without events = %v, %d", limit, got, e)
		}
		p.file(limit)
	}
	if b, _ := p.ring.File(64); len(b) != 26+25 {
		t.Errorf("P15.5: File(64) of a ring without events has %d bytes, want 51", len(b))
	}
}

// TestFileLimits: of an empty ring and of one that was gone round, at and beyond both ends.
func TestFileLimits(t *testing.T) {
	for _, taken := range []int{0, 2, 9} {
		p := newPair(t, 4)
		for k := range taken {
			p.emit(mark(k%2, k))
		}
		for _, limit := range []int{63, 62, 0, -1, -64, api.MaxLimit + 1, 1<<32 + 64, math.MinInt, math.MaxInt} {
			if got, e := p.ring.File(limit); len(got) != 0 || e != api.ErrArg {
				t.Errorf("P15.5: File(%d) = %v, %d, want ErrArg", limit, got, e)
			}
			p.file(limit)
		}
		for _, limit := range []int{64, 65, 1000, api.MaxLimit - 1, api.MaxLimit} {
			if e := p.file(limit); e != api.OK {
				t.Errorf("P15.5: File(%d) = %d", limit, e)
			}
		}
		p.all(64, 1)
	}
}

// TestFileIsRead: what is read of the file is the Snapshot.
func TestFileIsRead(t *testing.T) {
	r := rand.New(rand.NewSource(155))
	for range 200 {
		x, _ := ring.New(1 + r.Intn(30))
		for _, e := range samples.Trace(r.Intn, 90) {
			x.Emit(e)
		}
		b, e := x.File(samples.Limit(r.Intn))
		if e != api.OK {
			t.Fatalf("P15.5: File = %d", e)
		}
		if got, e := file.Load(b); e != api.OK || !same(got, x.Snapshot()) {
			t.Fatalf("P15.5: the file tells %v, %d, the ring holds %v", got, e, x.Snapshot())
		}
	}
}

// tooMuch tells a ring events that are each good, but have together too much for a file, and holds that
// File answers so as long as all of them are held, and that all else answers as ever.
func tooMuch(t *testing.T, stacks [][]string) {
	t.Helper()
	x, _ := ring.New(len(stacks))
	for k, stack := range stacks {
		if e := x.Emit(api.Event{Kind: api.Mark, Obj: uint64(k), Stack: stack}); e != api.OK {
			t.Fatalf("P15.2: Emit = %d", e)
		}
	}
	if b, e := x.File(4096); len(b) != 0 || e != api.ErrLarge {
		t.Errorf("P15.5: File of too much = %d bytes, %d, want ErrLarge", len(b), e)
	}
	if b, e := x.File(63); len(b) != 0 || e != api.ErrArg {
		t.Errorf("P15.5: File(63) of too much = %d bytes, %d, want ErrArg", len(b), e)
	}
	if x.Len() != len(stacks) || x.Lost() != 0 || len(x.Window(math.MaxInt)) != len(stacks) {
		t.Fatalf("P15.3: Len %d, Lost %d, want %d, 0", x.Len(), x.Lost(), len(stacks))
	}
	x.Emit(mark(0, len(stacks))) // the first of them is lost, and the others are not too much
	b, e := x.File(4096)
	want, f := file.Record(x.Snapshot(), 4096)
	if e != api.OK || f != api.OK || !bytes.Equal(b, want) || x.Lost() != 1 {
		t.Errorf("P15.5: File of just enough = %d bytes, %d, want %d, %d", len(b), e, len(want), f)
	}
}

func TestTooMuchText(t *testing.T) {
	stacks := [][]string{{"x"}}
	for _, frame := range samples.Longest(api.MaxText / api.MaxSite) {
		stacks = append(stacks, []string{frame})
	}
	tooMuch(t, stacks)
}

func TestTooManyStrings(t *testing.T) {
	stacks := [][]string{{"one more"}}
	list := samples.Numbered(api.MaxStrings)
	for k := 0; k < len(list); k += api.MaxDepth {
		stacks = append(stacks, list[k:k+api.MaxDepth])
	}
	tooMuch(t, stacks)
}

// TestTooManyNodes: stacks of 16 frames that differ in their outermost ones have 16 nodes each.
func TestTooManyNodes(t *testing.T) {
	stacks := [][]string{{"one more"}}
	list := samples.Numbered(api.MaxNodes / api.MaxDepth)
	for _, outer := range list {
		stack := make([]string, api.MaxDepth)
		stack[api.MaxDepth-1] = outer
		stacks = append(stacks, stack)
	}
	tooMuch(t, stacks)
}
