package salvage_test

import (
	"bytes"
	"slices"
	"testing"

	"hindsight/api"
	"hindsight/salvage"
	"hindsight/samples"
)

// files are such as are whole, damaged, cut, mixed.
func files(t *testing.T) [][]byte {
	t.Helper()
	a, b := fileA(t), recorded(t, rich(), 64)
	list := [][]byte{nil, a, a[:lengthOfA-1], turned(a, stringsAt+20), turned(a, stringsAt), append([]byte{0}, a...),
		slices.Concat(a, b), b, b[:len(b)/2], b[len(b)/2:], turned(b, len(b)/3), slices.Concat(b, a[:stringsAt+16])}
	for k := range list {
		list[k] = bytes.Clone(list[k])
	}
	return list
}

func TestLeaves(t *testing.T) {
	all := files(t)
	lists, whole := samples.Roomy(all)
	_, want := samples.Roomy(all)
	for _, b := range lists {
		salvage.Scan(b)
		salvage.Save(b)
		salvage.Mend(b)
	}
	if !slices.EqualFunc(whole, want, bytes.Equal) {
		t.Errorf("P13.6: bytes were changed, or the room behind them")
	}
}

// TestRoomIsNotRead: what stands in the room behind the bytes is not taken for more of them.
func TestRoomIsNotRead(t *testing.T) {
	a := fileA(t)
	for cut := range len(a) {
		want := plainSave(bytes.Clone(a[:cut]))
		saves(t, "a file that goes on behind its end", a[:cut], want)
		spots, between := plainScan(bytes.Clone(a[:cut]))
		scans(t, "a file that goes on behind its end", a[:cut], spots, between)
	}
}

// TestNothingKept: the bytes change behind the call, and the answers stand.
func TestNothingKept(t *testing.T) {
	for _, b := range files(t) {
		spots, between := plainScan(b)
		saved := plainSave(b)
		mended, fault := plainMend(b)
		s, r, _ := salvage.Scan(b)
		got, _ := salvage.Save(b)
		m, e := salvage.Mend(b)
		samples.Spoil(b, 99)
		if !slices.Equal(s, spots) || !slices.Equal(r, between) {
			t.Errorf("P13.6: Scan kept its bytes")
		}
		if !sameRescue(got, saved) {
			t.Errorf("P13.6: Save kept its bytes")
		}
		if e != fault || !bytes.Equal(m, mended) {
			t.Errorf("P13.6: Mend kept its bytes")
		}
	}
}

// TestAnswersAreNew: answers are written over with their room, and others of the same call stand, and the
// bytes that were handed in.
func TestAnswersAreNew(t *testing.T) {
	for _, b := range files(t) {
		keep := bytes.Clone(b)
		spots, between := plainScan(b)
		saved := plainSave(b)
		mended, fault := plainMend(b)
		s, r, _ := salvage.Scan(b)
		one, _ := salvage.Save(b)
		m, _ := salvage.Mend(b)
		_ = append(s, api.Spot{})
		samples.Spoil(s, api.Spot{Kind: 77})
		samples.Spoil(r, api.Span{From: 77})
		samples.Spoil(m, 77)
		samples.Spoil(one.Stamps, 77)
		samples.Spoil(one.Bad, api.Span{From: 77})
		for k, e := range one.Events {
			if !sameTrace(one.Events[k:], saved.Events[k:]) {
				t.Fatalf("P13.6: an event from %d on shares its stack with one ahead of it", k)
			}
			_ = append(e.Stack, "behind")
			samples.Spoil(e.Stack, "spoilt")
		}
		samples.Spoil(one.Events, api.Event{G: 77})
		scans(t, "P13.6: behind an answer that was written over", b, spots, between)
		saves(t, "P13.6: behind an answer that was written over", b, saved)
		mends(t, "P13.6: behind an answer that was written over", b, mended, fault)
		if !bytes.Equal(b, keep) {
			t.Fatalf("P13.6: an answer shares memory with the bytes")
		}
	}
}

// TestTwoAnswers: two answers that are there at once.
func TestTwoAnswers(t *testing.T) {
	b := recorded(t, rich(), 64)
	one, _ := salvage.Save(b)
	other, _ := salvage.Save(b)
	m, _ := salvage.Mend(b)
	n, _ := salvage.Mend(b)
	for _, e := range one.Events {
		samples.Spoil(e.Stack, "spoilt")
	}
	samples.Spoil(one.Events, api.Event{})
	samples.Spoil(one.Stamps, -1)
	samples.Spoil(m, 99)
	if !sameRescue(other, plainSave(b)) || !bytes.Equal(n, b) {
		t.Errorf("P13.6: two answers share memory")
	}
}
