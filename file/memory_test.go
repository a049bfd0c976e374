package file_test

import (
	"bytes"
	"slices"
	"testing"

	"hindsight/api"
	"hindsight/file"
	"hindsight/samples"
)

// roomy is a trace with spare room behind the list and behind each stack, and all of that.
func roomy(t []api.Event) (list, whole []api.Event) {
	for _, e := range t {
		stack := slices.Concat(e.Stack, []string{"behind", "it"})
		w := e
		w.Stack, e.Stack = stack, stack[:len(e.Stack)]
		list, whole = append(list, e), append(whole, w)
	}
	list = append(list, mark(-5, "spare"), api.Event{})
	return list[:len(t)], whole
}

func TestRecordLeaves(t *testing.T) {
	bad := slices.Concat(rich()[:20], []api.Event{{}})
	for _, trace := range [][]api.Event{nil, rich(), bad} {
		list, whole := roomy(trace)
		for _, limit := range []int{63, 64, 1000} {
			file.Record(list, limit)
		}
		again, wantWhole := roomy(trace)
		if !sameTrace(list[:len(trace)+2], again[:len(trace)+2]) || !sameTrace(whole, wantWhole) {
			t.Errorf("P11.8: Record changed its events, a stack, or the room behind them")
		}
	}
}

// files are good ones and such as are refused at each step.
func files(t *testing.T) [][]byte {
	t.Helper()
	out := [][]byte{nil, record(t, nil, 64), record(t, rich(), 64), record(t, rich(), 1000)}
	for _, f := range allFaults() {
		out = append(out, faultyFile(rich(), 64, f))
	}
	return out
}

func TestReadingLeaves(t *testing.T) {
	all := files(t)
	lists, whole := samples.Roomy(all)
	_, want := samples.Roomy(all)
	for k, b := range lists {
		file.Load(b)
		file.Peek(b)
		file.Recut(b, 100)
		file.Append(b, lists[2])
		file.Append(lists[3], b)
		file.Append(b, b)
		if !bytes.Equal(whole[k], want[k]) {
			t.Fatalf("P11.8: a file was changed, or the room behind it")
		}
	}
	if !slices.EqualFunc(whole, want, bytes.Equal) {
		t.Errorf("P11.8: a file was changed, or the room behind it")
	}
}

// TestNothingKept: what was handed in changes behind the call, and the answers stand.
func TestNothingKept(t *testing.T) {
	trace := rich()
	b, _ := file.Record(trace, 64)
	for _, e := range trace {
		samples.Spoil(e.Stack, "spoilt")
	}
	samples.Spoil(trace, api.Event{})
	if !bytes.Equal(b, plainFile(rich(), 64)) {
		t.Errorf("P11.8: Record kept its events")
	}
	one, other := plainFile(rich(), 64), plainFile(rich()[:9], 64)
	got, e := file.Load(one)
	h, f := file.Peek(one)
	cut, g := file.Recut(one, 100)
	both, i := file.Append(one, other)
	samples.Spoil(one, 99)
	samples.Spoil(other, 99)
	if e != api.OK || !sameTrace(got, rich()) {
		t.Errorf("P11.8: Load kept its bytes: %d", e)
	}
	if want, _ := plainPeek(plainFile(rich(), 64)); f != api.OK || h != want {
		t.Errorf("P11.8: Peek kept its bytes: %v, %d", h, f)
	}
	if g != api.OK || !bytes.Equal(cut, plainFile(rich(), 100)) {
		t.Errorf("P11.8: Recut kept its bytes: %d", g)
	}
	if i != api.OK || !bytes.Equal(both, plainFile(slices.Concat(rich(), rich()[:9]), 64)) {
		t.Errorf("P11.8: Append kept its bytes: %d", i)
	}
}

// TestWrittenIsNew: answers are written over with all their room, and the others stand, and what was handed in.
func TestWrittenIsNew(t *testing.T) {
	want, cut := plainFile(rich(), 64), plainFile(rich(), 100)
	a, b := slices.Clone(want), plainFile(nil, 64)
	calls := map[string]func() []byte{
		"Record":         func() []byte { b, _ := file.Record(rich(), 64); return b },
		"Recut":          func() []byte { b, _ := file.Recut(a, 100); return b },
		"Recut the same": func() []byte { b, _ := file.Recut(a, 64); return b },
		"Append none":    func() []byte { c, _ := file.Append(a, b); return c },
	}
	for name, call := range calls {
		first, second := call(), call()
		if !bytes.Equal(first, want) && !bytes.Equal(first, cut) {
			t.Errorf("%s: another file", name)
		}
		keep := slices.Clone(second)
		samples.Spoil(first, 99)
		if !bytes.Equal(second, keep) || !bytes.Equal(a, want) {
			t.Errorf("P11.8: an answer of %s shares memory with another one, or with its file", name)
		}
	}
}

// TestReadIsNew: every stack that is read is written over with all its room, one behind the other; the ones
// behind it stand, and a second answer, and the file.
func TestReadIsNew(t *testing.T) {
	b := plainFile(rich(), 64)
	one, _ := file.Load(b)
	other, _ := file.Load(b)
	for k, e := range one {
		if !sameTrace(one[k:], rich()[k:]) {
			t.Fatalf("P11.8: an event from %d on shares its stack's list with one ahead of it", k)
		}
		samples.Spoil(e.Stack, "spoilt")
		_ = append(e.Stack, "behind")
	}
	samples.Spoil(one, api.Event{})
	if !sameTrace(other, rich()) {
		t.Errorf("P11.8: two answers of Load share memory")
	}
	if !bytes.Equal(b, plainFile(rich(), 64)) {
		t.Errorf("P11.8: an answer of Load shares memory with the file")
	}
}

// TestAnew: a call that was refused, or was not, changes nothing for the next one.
func TestAnew(t *testing.T) {
	for _, b := range files(t) {
		want, fault := plainLoad(b)
		for range 2 {
			loads(t, "P0.3", b, want, fault)
		}
	}
	loads(t, "P0.3", record(t, rich(), 64), rich(), api.OK)
}
