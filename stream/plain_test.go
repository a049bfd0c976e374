package stream_test

import (
	"bytes"
	"math"
	"slices"
	"sort"

	"hindsight/api"
	"hindsight/delta"
)

// The limits, as the chapters write them.
const (
	minLimit  = 64
	maxLimit  = 1048576
	maxEvents = 1048576
	maxNodes  = 262144
)

func mark(stamp int) api.Rec { return api.Rec{Stamp: stamp, Kind: 22} }

// marks are n marks with the stamps from first on.
func marks(first, n int) []api.Rec {
	list := make([]api.Rec, n)
	for k := range list {
		list[k] = mark(first + k)
	}
	return list
}

func rec(stamp, kind int, obj, arg uint64, stack int) api.Rec {
	return api.Rec{Stamp: stamp, Kind: kind, Obj: obj, Arg: arg, Stack: stack}
}

func sameBodies(a, b [][]byte) bool { return slices.EqualFunc(a, b, bytes.Equal) }

// wrongLimits are limits that may not be.
func wrongLimits() []int {
	return []int{63, 1, 0, -1, -64, maxLimit + 1, 1 << 32, 1<<32 + 64, math.MaxInt, math.MinInt}
}

// text is the body of some records: each told against the state behind the one ahead of it.
func text(recs []api.Rec) []byte {
	var b []byte
	var s api.State
	for _, r := range recs {
		told, behind, _ := delta.Put(s, r)
		b, s = append(b, told...), behind
	}
	return b
}

// plainParts cuts a stream: a body takes as many records as it has room for.
func plainParts(recs []api.Rec, limit int) [][]api.Rec {
	var parts [][]api.Rec
	for len(recs) > 0 {
		// No record has fewer than two bytes.
		most := min(len(recs), limit/2)
		n := sort.Search(most, func(n int) bool { return len(text(recs[:n+1])) > limit })
		parts = append(parts, recs[:n])
		recs = recs[n:]
	}
	return parts
}

func plainBodies(recs []api.Rec, limit int) [][]byte {
	var bodies [][]byte
	for _, part := range plainParts(recs, limit) {
		bodies = append(bodies, text(part))
	}
	return bodies
}

// plainFault is what P8.1 and P8.4 ask of a record that comes behind others.
func plainFault(ahead []api.Rec, r api.Rec) api.Errno {
	if _, _, e := delta.Put(api.State{}, r); e != api.OK {
		return e
	}
	if n := len(ahead); n > 0 && r.Stamp <= ahead[n-1].Stamp {
		return api.ErrOrder
	}
	return api.OK
}

// plainEncode is P8.1, word by word.
func plainEncode(recs []api.Rec, limit int) ([][]byte, api.Errno) {
	if limit < minLimit || limit > maxLimit {
		return nil, api.ErrArg
	}
	for k, r := range recs {
		if e := plainFault(recs[:k], r); e != api.OK {
			return nil, e
		}
	}
	return plainBodies(recs, limit), api.OK
}

// plainChunk is P8.2, word by word.
func plainChunk(body []byte) ([]api.Rec, api.Errno) {
	if len(body) == 0 {
		return nil, api.ErrForm
	}
	var recs []api.Rec
	s, at := api.State{}, 0
	for at != len(body) {
		r, next, behind, e := delta.Get(s, body, at)
		if e != api.OK {
			return nil, e
		}
		recs, s, at = append(recs, r), behind, next
	}
	return recs, api.OK
}

// plainDecode is P8.3, word by word.
func plainDecode(bodies [][]byte, limit int) ([]api.Rec, api.Errno) {
	if limit < minLimit || limit > maxLimit {
		return nil, api.ErrArg
	}
	var recs []api.Rec
	for k, body := range bodies {
		part, e := plainChunk(body)
		if e != api.OK {
			return nil, e
		}
		if k > 0 && part[0].Stamp <= recs[len(recs)-1].Stamp {
			return nil, api.ErrOrder
		}
		recs = append(recs, part...)
	}
	if !sameBodies(plainBodies(recs, limit), bodies) {
		return nil, api.ErrChunk
	}
	return recs, api.OK
}

// plainWriter is P8.4, word by word: it remembers all records that it took.
type plainWriter struct {
	limit int
	all   []api.Rec
	under int // the place of the first record of the body under way
}

func (w *plainWriter) held() []api.Rec { return w.all[w.under:] }

func (w *plainWriter) put(r api.Rec) ([]byte, api.Errno) {
	if e := plainFault(w.all, r); e != api.OK {
		return nil, e
	}
	held := w.held()
	w.all = append(w.all, r)
	if len(text(w.held())) <= w.limit {
		return nil, api.OK
	}
	w.under = len(w.all) - 1
	return text(held), api.OK
}

func (w *plainWriter) flush() []byte {
	held := w.held()
	w.under = len(w.all)
	return text(held)
}
