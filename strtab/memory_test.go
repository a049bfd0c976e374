package strtab_test

import (
	"slices"
	"strings"
	"testing"
	"unsafe"

	"hindsight/api"
	"hindsight/samples"
	"hindsight/strtab"
)

// three are strings that go into three bodies for the limit 64.
func three() []string {
	return []string{"a", "", strings.Repeat("x", 60), "b", strings.Repeat("y", 62)}
}

func TestDecodeLeavesItsBodies(t *testing.T) {
	good := bodiesOf(three(), 64)
	for _, bodies := range [][][]byte{good, good[:2], good[1:], {{0, 1, 97, 1, 97}}, {{0, 1, 97}, {1, 1, 98}}, {{0, 3, 97}}} {
		lists, whole := samples.Roomy(bodies)
		_, want := samples.Roomy(bodies)
		outer := append(slices.Clone(lists), []byte("behind"))
		strtab.Decode(outer[:len(lists)], 64)
		if !sameBodies(whole, want) {
			t.Errorf("P4.8: Decode changed a body, or the room behind it")
		}
		if string(outer[len(lists)]) != "behind" || !sameBodies(outer[:len(lists)], bodies) {
			t.Errorf("P4.8: Decode changed the list of bodies, or the room behind it")
		}
	}
}

func TestDecodeKeepsNoBodies(t *testing.T) {
	lists, whole := samples.Roomy(bodiesOf(three(), 64))
	x, e := strtab.Decode(lists, 64)
	if e != api.OK {
		t.Fatalf("P4.5: Decode = %d", e)
	}
	for _, w := range whole {
		samples.Spoil(w, 99)
	}
	samples.Spoil(lists, nil)
	hold(t, "P4.8", x, three())
	if b, e := x.Encode(64); e != api.OK || !sameBodies(b, bodiesOf(three(), 64)) {
		t.Errorf("P4.8: Encode behind a change of the bodies that were read: %v, %d", b, e)
	}
}

// TestInternKeepsNoString: a string stands over bytes that change later, as its maker knows.
func TestInternKeepsNoString(t *testing.T) {
	b := []byte("main.go:12")
	x := strtab.New()
	x.Intern(unsafe.String(&b[0], len(b)))
	samples.Spoil(b, 'x')
	hold(t, "P4.8", x, []string{"main.go:12"})
}

// TestEncodedIsNew spoils one body after the other, with the room behind it.
func TestEncodedIsNew(t *testing.T) {
	for _, limit := range []int{64, 70, 1000} {
		x, want := table(t, three()...), bodiesOf(three(), limit)
		one, _ := x.Encode(limit)
		other, _ := x.Encode(limit)
		for k := range one {
			if !sameBodies(one[k:], want[k:]) {
				t.Errorf("P4.8: a body from %d on shares memory with one ahead of it", k)
			}
			samples.Spoil(one[k], 99)
		}
		samples.Spoil(one, nil)
		if !sameBodies(other, want) {
			t.Errorf("P4.8: two answers share memory")
		}
		hold(t, "P4.8", x, three())
		if again, e := x.Encode(limit); e != api.OK || !sameBodies(again, want) {
			t.Errorf("P4.8: what was written into an answer is seen in the table")
		}
	}
}

// TestTablesApart: what is put into one table is in no other one, also if one was read from the other's bodies.
func TestTablesApart(t *testing.T) {
	x := table(t, three()...)
	bodies, _ := x.Encode(64)
	y, _ := strtab.Decode(bodies, 64)
	z := strtab.New()
	taken(t, y, "of y")
	taken(t, x, "of x")
	taken(t, x, "more of x")
	taken(t, z, "of z")
	hold(t, "P0.3", x, append(three(), "of x", "more of x"))
	hold(t, "P0.3", y, append(three(), "of y"))
	hold(t, "P0.3", z, []string{"of z"})
	for _, s := range []string{"of x", "of z"} {
		if id, ok := y.Find(s); id != 0 || ok {
			t.Errorf("P0.3: Find(%q) of another table = %d, %v", s, id, ok)
		}
	}
	if again, e := strtab.Decode(bodies, 64); e != api.OK {
		t.Errorf("P0.3: a second Decode = %d", e)
	} else {
		hold(t, "P0.3", again, three())
	}
}
