package file_test

import (
	"bytes"
	"math/rand"
	"slices"
	"testing"

	"hindsight/api"
	"hindsight/event"
	"hindsight/file"
	"hindsight/frame"
	"hindsight/samples"
)

// someDraftEdit changes one thing of a draft; what comes out can be written all the same.
func someDraftEdit(r *rand.Rand) func(d *draft) {
	sort := r.Intn(12)
	return func(d *draft) {
		switch {
		case sort < 3:
			editTexts(r, d)
		case sort < 6:
			editNodes(r, d)
		default:
			editRows(r, d)
		}
	}
}

func editTexts(r *rand.Rand, d *draft) {
	if len(d.texts) == 0 {
		d.texts = append(d.texts, samples.Site(r.Intn))
		return
	}
	k, j := r.Intn(len(d.texts)), r.Intn(len(d.texts))
	switch r.Intn(5) {
	case 0:
		d.texts = append(d.texts, samples.Site(r.Intn)+"more")
	case 1:
		d.texts = slices.Insert(d.texts, k, samples.Site(r.Intn))
	case 2:
		d.texts = slices.Delete(d.texts, k, k+1)
	case 3:
		d.texts[k], d.texts[j] = d.texts[j], d.texts[k]
	case 4:
		d.texts[k] = samples.Site(r.Intn)
	}
}

func editNodes(r *rand.Rand, d *draft) {
	n := len(d.nodes)
	if n == 0 {
		d.nodes = append(d.nodes, node{0, r.Intn(2)})
		return
	}
	k := r.Intn(n)
	switch r.Intn(5) {
	case 0:
		d.nodes = append(d.nodes, node{r.Intn(n + 1), r.Intn(len(d.texts) + 1)})
	case 1: // as deep as can be
		d.nodes = append(d.nodes, node{n, 0})
		for range r.Intn(18) {
			d.nodes = append(d.nodes, node{len(d.nodes), 0})
		}
	case 2:
		d.nodes[k].parent = r.Intn(k + 1)
	case 3:
		d.nodes[k].frame = r.Intn(len(d.texts) + 1)
	case 4:
		d.nodes = d.nodes[:n-1]
	}
}

func editRows(r *rand.Rand, d *draft) {
	if len(d.rows) == 0 {
		return
	}
	row := &d.rows[r.Intn(len(d.rows))]
	k := r.Intn(len(row.Recs))
	switch r.Intn(7) {
	case 0:
		row.Recs[k].Kind, row.Recs[k].Obj = 1+r.Intn(22), -uint64(r.Intn(50))
	case 1:
		row.Recs[k].Arg = uint64(r.Intn(70))
	case 2:
		row.Recs[k].Stack = r.Intn(len(d.nodes) + 2)
	case 3:
		if len(row.Recs) > 1 {
			row.Recs = slices.Delete(row.Recs, k, k+1)
		}
	case 4: // those behind it come later
		for j := k; j < len(row.Recs); j++ {
			row.Recs[j].Stamp++
		}
	case 5: // a record that another row may have, too
		last := row.Recs[len(row.Recs)-1]
		last.Stamp++
		row.Recs = append(row.Recs, last)
	case 6:
		if row.G+1 < maxG && !slices.ContainsFunc(d.rows, func(o api.Row) bool { return o.G == row.G+1 }) {
			row.G++
		}
	}
}

// someFramesEdit changes the frames of a file; the foot behind it is made anew.
func someFramesEdit(r *rand.Rand) func(fs []api.Frame) []api.Frame {
	sort := r.Intn(8)
	return func(fs []api.Frame) []api.Frame {
		if len(fs) == 0 {
			return fs
		}
		k, j := r.Intn(len(fs)), r.Intn(len(fs))
		switch sort {
		case 0:
			fs[k].Kind = 1 + r.Intn(6)
		case 1:
			fs[k].Stream = []int{0, 1, 2, 65535}[r.Intn(4)]
		case 2:
			fs = slices.Delete(fs, k, k+1)
		case 3:
			fs = slices.Insert(fs, j, fs[k])
		case 4:
			fs[k], fs[j] = fs[j], fs[k]
		case 5:
			fs = head(func(h *api.Head) { editHead(r, h) })(fs)
		default:
			if last := lastOf(fs, api.FrameEvents); last > 0 && r.Intn(2) == 0 {
				k = last // there most can be wrong
			}
			fs[k].Body = someBody(r, fs[k].Body)
		}
		return fs
	}
}

// someBody is a body that was changed.
func someBody(r *rand.Rand, body []byte) []byte {
	bodies := samples.Damage(r.Intn, [][]byte{body})
	if len(bodies) == 0 {
		return nil
	}
	return bodies[0]
}

func editHead(r *rand.Rand, h *api.Head) {
	field := []*int{&h.Limit, &h.Events, &h.Streams, &h.Strings, &h.Nodes}[r.Intn(5)]
	*field += r.Intn(7) - 3
}

// someFault is a change of any sort.
func someFault(r *rand.Rand) fault {
	switch r.Intn(8) {
	case 0, 1, 2:
		return fault{draft: someDraftEdit(r)}
	case 3, 4, 5:
		return fault{frames: someFramesEdit(r)}
	case 6:
		return fault{numbered: func(fs []api.Frame) {
			if len(fs) == 0 {
				return
			}
			f := &fs[r.Intn(len(fs))]
			switch r.Intn(3) {
			case 0:
				f.Ord += r.Intn(2)
			case 1:
				f.Kind = 1 + r.Intn(6)
			case 2:
				fs[len(fs)-1].Body = someBody(r, fs[len(fs)-1].Body)
			}
		}}
	}
	return fault{bytes: func(b []byte) []byte {
		at := r.Intn(len(b) + 1)
		switch r.Intn(3) {
		case 0:
			return b[:at]
		case 1:
			return slices.Insert(b, at, byte(r.Intn(256)))
		}
		return append(b, top(byte(r.Intn(3)), uint32(r.Intn(2))*3000000)...)
	}}
}

// TestEdits: files with one to three changes of any sort, all sums put right, are read as the chapter's
// words say; and Peek, Recut and Append, too.
func TestEdits(t *testing.T) {
	r := rand.New(rand.NewSource(113))
	seen := samples.Seen{}
	other := record(t, rich()[:5], 100)
	for range 25000 {
		trace, limit := samples.Trace(r.Intn, 40), minLimit+r.Intn(2)*r.Intn(300)
		var with []fault
		for range 1 + r.Intn(3) {
			with = append(with, someFault(r))
		}
		b := faultyFile(trace, limit, with...)
		want, fault := plainLoad(b)
		loads(t, "P11.2: a file with some changes", b, want, fault)
		peeks(t, b)
		seen[fault]++
		if r.Intn(10) == 0 {
			recuts(t, b, minLimit+r.Intn(100))
			appends(t, b, other)
			appends(t, other, b)
		}
	}
	if rare := seen.Rare(api.OK, api.ErrEnd, api.ErrLong, api.ErrTake, api.ErrMagic, api.ErrSum, api.ErrField, api.ErrBody,
		api.ErrString, api.ErrTwice, api.ErrForm, api.ErrChunk, api.ErrStack, api.ErrDeep, api.ErrNode, api.ErrKind,
		api.ErrObj, api.ErrSize, api.ErrRec, api.ErrOrder, api.ErrGap, api.ErrDouble,
		api.ErrHead, api.ErrFoot, api.ErrTotal, api.ErrPlace, api.ErrForm2); rare != nil {
		t.Errorf("the errors %v come too seldom: %v", rare, seen)
	}
}

func peeks(t *testing.T, b []byte) {
	t.Helper()
	want, fault := plainPeek(b)
	if h, e := file.Peek(b); h != want || e != fault {
		t.Fatalf("P11.3: Peek = %v, %d, want %v, %d", h, e, want, fault)
	}
}

// recuts holds what Recut answers against the chapter's words.
func recuts(t *testing.T, b []byte, limit int) {
	t.Helper()
	var want []byte
	trace, fault := plainLoad(b)
	if limit < minLimit || limit > maxLimit {
		fault = api.ErrArg
	}
	if fault == api.OK {
		want = plainFile(trace, limit)
	}
	if got, e := file.Recut(b, limit); e != fault || !bytes.Equal(got, want) {
		t.Fatalf("P11.4: Recut of %d bytes, for the limit %d = %d bytes, %d, want %d, %d", len(b), limit, len(got), e, len(want), fault)
	}
}

// appends holds what Append answers against the chapter's words.
func appends(t *testing.T, a, b []byte) {
	t.Helper()
	var want []byte
	first, fault := plainLoad(a)
	second, later := plainLoad(b)
	if fault == api.OK {
		fault = later
	}
	if fault == api.OK {
		_, fault = event.Bounds(slices.Concat(first, second))
	}
	if fault == api.OK {
		f, _, _ := frame.Decode(a, 0)
		h, _ := frame.DecodeHead(f.Body)
		want = plainFile(slices.Concat(first, second), h.Limit)
	}
	if got, e := file.Append(a, b); e != fault || !bytes.Equal(got, want) {
		t.Fatalf("P11.5: Append of %d and %d bytes = %d bytes, %d, want %d, %d", len(a), len(b), len(got), e, len(want), fault)
	}
}
