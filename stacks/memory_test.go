package stacks_test

import (
	"slices"
	"testing"
	"unsafe"

	"hindsight/api"
	"hindsight/samples"
	"hindsight/stacks"
	"hindsight/strtab"
)

// three is a forest that goes into three bodies for the limit 64.
func three() plain {
	return plain{samples.Numbered(100), append(flat(65), step{65, 3}, step{66, 99})}
}

func TestInternLeavesItsStack(t *testing.T) {
	f, x, _ := over(t)
	room := []string{"a", "b", "c", "behind", "further behind"}
	want := slices.Clone(room)
	for _, n := range []int{3, 2, 3, 1, 0} {
		f.Intern(room[:n])
		if !slices.Equal(room, want) {
			t.Errorf("P5.8: Intern changed its stack, or the room behind it: %q", room)
		}
	}
	deep := append(samples.Numbered(17), "behind")
	for _, n := range []int{16, 17} {
		f.Intern(deep[:n])
		if !slices.Equal(deep, append(samples.Numbered(17), "behind")) {
			t.Errorf("P5.8: Intern changed a deep stack, or the room behind it")
		}
	}
	if _, ok := x.Find("behind"); ok {
		t.Errorf("P5.8: Intern read the room behind its stack")
	}
}

// TestInternKeepsNoStack: a list that changes later, and strings over bytes that change later, as their maker knows.
func TestInternKeepsNoStack(t *testing.T) {
	f, x, p := over(t)
	b := []byte("main.go:12")
	s := unsafe.String(&b[0], len(b))
	stack := []string{"f", s, "g", s}
	if id, e := f.Intern(stack); id != 4 || e != api.OK {
		t.Fatalf("P5.2: Intern = %d, %d", id, e)
	}
	samples.Spoil(b, 'x')
	samples.Spoil(stack, "h")
	p.intern([]string{"f", "main.go:12", "g", "main.go:12"})
	hold(t, "P5.8", f, x, *p)
}

// TestStackIsNew writes over each answer, with the room behind it, ahead of asking for the next one.
func TestStackIsNew(t *testing.T) {
	p := three()
	f, x := grown(t, p)
	kept, _ := f.Stack(67)
	for id := range len(p.nodes) + 1 {
		one, _ := f.Stack(id)
		other, _ := f.Stack(id)
		samples.Spoil(one, "spoilt")
		if !slices.Equal(other, p.stack(id)) {
			t.Errorf("P5.8: two answers of Stack(%d) share memory", id)
		}
		samples.Spoil(other, "spoilt")
	}
	if !slices.Equal(kept, p.stack(67)) {
		t.Errorf("P5.8: answers of Stack for unlike numbers share memory")
	}
	hold(t, "P5.8", f, x, p)
}

// TestEncodedIsNew writes over one body after the other, with the room behind it.
func TestEncodedIsNew(t *testing.T) {
	p := three()
	f, x := grown(t, p)
	for _, limit := range []int{64, 70, 1000} {
		want := bodiesOf(p.nodes, limit)
		one, _ := f.Encode(limit)
		other, _ := f.Encode(limit)
		for k := range one {
			if !sameBodies(one[k:], want[k:]) {
				t.Errorf("P5.8: a body from %d on shares memory with one ahead of it", k)
			}
			samples.Spoil(one[k], 99)
		}
		samples.Spoil(one, nil)
		if !sameBodies(other, want) {
			t.Errorf("P5.8: two answers of Encode share memory")
		}
		bothWays(t, f, x, p, limit, want)
	}
	if n := len(bodiesOf(p.nodes, 64)); n != 3 {
		t.Errorf("the test's own forest has %d bodies", n)
	}
}

func TestDecodeLeavesItsBodies(t *testing.T) {
	p := three()
	x := table(t, p.texts...)
	good := bodiesOf(p.nodes, 64)
	for _, b := range [][][]byte{good, good[:2], good[1:], {{1, 0, 0, 1, 0}}, {{1, 0, 0}, {2, 0, 1}}, {{1, 0}}, {{1, 0, 100}}} {
		lists, whole := samples.Roomy(b)
		_, want := samples.Roomy(b)
		outer := append(lists, []byte("behind"))
		stacks.Decode(x, outer[:len(lists)], 64)
		if !sameBodies(whole, want) {
			t.Errorf("P5.8: Decode changed a body, or the room behind it")
		}
		if !sameBodies(outer, append(slices.Clone(b), []byte("behind"))) {
			t.Errorf("P5.8: Decode changed the list of bodies, or the room behind it")
		}
		holdTable(t, "P5.5", x, p.texts)
	}
}

func TestDecodeKeepsNoBodies(t *testing.T) {
	p := three()
	x := table(t, p.texts...)
	lists, whole := samples.Roomy(bodiesOf(p.nodes, 64))
	f, e := stacks.Decode(x, lists, 64)
	if e != api.OK {
		t.Fatalf("P5.5: Decode = %d", e)
	}
	for _, w := range whole {
		samples.Spoil(w, 99)
	}
	samples.Spoil(lists, nil)
	bothWays(t, f, x, p, 64, bodiesOf(p.nodes, 64))
}

// TestForestsApart: what is put into one forest is in no other one, also if one was read from the
// other's bodies; strings that are put into the table are in it for both.
func TestForestsApart(t *testing.T) {
	p := example()
	f, x := grown(t, p)
	b := bodiesOf(p.nodes, 64)
	g, _ := stacks.Decode(x, b, 64)
	h := stacks.New(x)
	q, r := example(), plain{texts: p.texts}
	for k, c := range []struct {
		f     *stacks.Forest
		p     *plain
		stack []string
	}{
		{g, &q, []string{"of g", "f", "main"}}, {f, &p, []string{"of f", "main"}}, {f, &p, []string{"of g", "main"}},
		{h, &r, []string{"of g"}}, {g, &q, []string{"of f"}}, {h, &r, []string{"main"}}, {g, &q, []string{"main"}},
	} {
		both(t, c.f, x, c.p, c.stack, api.OK)
		p.texts, q.texts, r.texts = c.p.texts, c.p.texts, c.p.texts
		for _, o := range []struct {
			f *stacks.Forest
			p plain
		}{{f, p}, {g, q}, {h, r}} {
			hold(t, "P0.3", o.f, x, o.p)
			bothWays(t, o.f, x, o.p, 64+k, bodiesOf(o.p.nodes, 64+k))
		}
	}
	if again, e := stacks.Decode(x, b, 64); e != api.OK || again.Len() != 4 {
		t.Errorf("P0.3: a second Decode = %d nodes, %d", again.Len(), e)
	}
}

// TestTableThatGrows: what may be read hangs on the strings that the table has then.
func TestTableThatGrows(t *testing.T) {
	x := strtab.New()
	b := [][]byte{{1, 0, 0, 0, 1}}
	for n, want := range []api.Errno{api.ErrString, api.ErrString, api.OK, api.OK} {
		if f, e := stacks.Decode(x, b, 64); e != want || (f != nil) != (e == api.OK) {
			t.Errorf("P5.5: Decode over %d strings = %d, want %d", n, e, want)
		}
		x.Intern(samples.Numbered(4)[n])
	}
}
