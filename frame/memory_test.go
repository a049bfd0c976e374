package frame_test

import (
	"bytes"
	"math/rand"
	"slices"
	"testing"

	"hindsight/api"
	"hindsight/frame"
	"hindsight/samples"
)

// roomy is a copy of b with spare room behind it, and the whole of the room.
func roomy(b []byte) (list, room []byte) {
	room = append(bytes.Clone(b), bytes.Repeat([]byte{77}, 40)...)
	return room[:len(b)], room
}

// TestArgumentsStay makes every call with spare room behind its lists.
func TestArgumentsStay(t *testing.T) {
	whole := join(t, example, api.Frame{Kind: 1, Body: []byte("body")})
	for name, x := range map[string]struct {
		b    []byte
		call func([]byte)
	}{
		"Encode":     {[]byte("body"), func(b []byte) { frame.Encode(api.Frame{Kind: 1, Body: b}) }},
		"Join":       {[]byte("body"), func(b []byte) { frame.Join([]api.Frame{{Kind: 1, Body: b}, {Kind: 2, Body: b[:2]}}) }},
		"Decode":     {whole, func(b []byte) { frame.Decode(b, 21) }},
		"Split":      {whole, func(b []byte) { frame.Split(b) }},
		"Split, cut": {whole[:40], func(b []byte) { frame.Split(b) }},
		"DecodeHead": {[]byte{1, 64, 0, 0, 0, 0}, func(b []byte) { frame.DecodeHead(b) }},
		"DecodeFoot": {[]byte{3, 2, 1, 0, 0}, func(b []byte) { frame.DecodeFoot(b) }},
	} {
		list, room := roomy(x.b)
		want := bytes.Clone(room)
		x.call(list)
		if !bytes.Equal(room, want) {
			t.Errorf("P3.11: %s changed what was handed in, or the room behind it", name)
		}
	}
}

func TestJoinLeavesTheList(t *testing.T) {
	body := []byte("body")
	room := []api.Frame{{Kind: 1, Body: body}, {Kind: 2, Body: body}, {Kind: 3, Body: body}}
	frame.Join(room[:2])
	for k, f := range room {
		if !same(f, api.Frame{Kind: k + 1, Body: []byte("body")}) {
			t.Errorf("P3.11: Join changed the frame %d of the list or of its spare room: %v", k, f)
		}
	}
}

// TestEncodedIsNew: neither spoiling the argument nor spoiling an answer is seen in another answer.
func TestEncodedIsNew(t *testing.T) {
	for _, n := range []int{0, 1, 12, 100} {
		body := someBytes(rand.New(rand.NewSource(31)), n)
		want := bytesOf(api.Frame{Kind: 1, Body: body})
		handed := bytes.Clone(body)
		one, other := encode(t, api.Frame{Kind: 1, Body: handed}), encode(t, api.Frame{Kind: 1, Body: handed})
		joined := join(t, api.Frame{Kind: 1, Body: handed}, api.Frame{Kind: 1, Body: handed})
		samples.Spoil(one, 99)
		if !bytes.Equal(handed, body) {
			t.Errorf("P3.11: an encoded frame shares memory with its body")
		}
		samples.Spoil(handed, 99)
		if !bytes.Equal(other, want) || !bytes.Equal(joined, slices.Concat(want, want)) {
			t.Errorf("P3.11: encoded frames share memory with each other or with the body")
		}
	}
}

func TestDecodedIsNew(t *testing.T) {
	body := []byte("a body of some bytes")
	b := encode(t, api.Frame{Kind: 1, Body: body})
	one, _, _ := frame.Decode(b, 0)
	other, _, _ := frame.Decode(b, 0)
	samples.Spoil(one.Body, 99)
	if again, _, e := frame.Decode(b, 0); e != api.OK || !bytes.Equal(again.Body, body) {
		t.Errorf("P3.11: a decoded body is a piece of what was handed in")
	}
	samples.Spoil(b, 99)
	if !bytes.Equal(other.Body, body) {
		t.Errorf("P3.11: a decoded body is seen to change")
	}
}

// TestSplitBodiesAreNew spoils one body after the other, with the room behind it.
func TestSplitBodiesAreNew(t *testing.T) {
	r := rand.New(rand.NewSource(32))
	var want []api.Frame
	for _, n := range []int{3, 0, 1, 8, 33, 0, 5} {
		f := someFrame(r, 0)
		f.Body = someBytes(r, n)
		want = append(want, f)
	}
	for _, more := range [][]byte{nil, {0}, {167, 1}} {
		b := append(join(t, want...), more...)
		fs, _, _ := frame.Split(b)
		kept := bytes.Clone(b)
		for k := range fs {
			if !slices.EqualFunc(fs[k:], want[k:], same) {
				t.Fatalf("P3.11: a body of the frames from %d on shares memory with one ahead of it", k)
			}
			samples.Spoil(fs[k].Body, 99)
		}
		if !bytes.Equal(b, kept) {
			t.Errorf("P3.11: a body is a piece of what was handed in")
		}
	}
	b := join(t, want...)
	fs, _, _ := frame.Split(b)
	other, _, _ := frame.Split(b)
	for k := range fs[:cap(fs)] {
		fs[:cap(fs)][k] = api.Frame{}
	}
	samples.Spoil(b, 99)
	if !slices.EqualFunc(other, want, same) {
		t.Errorf("P3.11: two answers share memory, or one with what was handed in")
	}
}

func TestBodiesOfEndsAreNew(t *testing.T) {
	h, f := api.Head{Limit: 64, Events: 300, Streams: 2}, api.Foot{Frames: 3, Sum: 258}
	head, _ := frame.EncodeHead(h)
	foot, _ := frame.EncodeFoot(f)
	samples.Spoil(head, 99)
	samples.Spoil(foot, 99)
	if again, e := frame.EncodeHead(h); e != api.OK || !bytes.Equal(again, []byte{1, 64, 172, 2, 2, 0, 0}) {
		t.Errorf("P3.11: EncodeHead answers memory that was answered before: %v", again)
	}
	if again, e := frame.EncodeFoot(f); e != api.OK || !bytes.Equal(again, []byte{3, 2, 1, 0, 0}) {
		t.Errorf("P3.11: EncodeFoot answers memory that was answered before: %v", again)
	}
}
