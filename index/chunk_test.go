package index

import (
	"testing"

	"hindsight/api"
)

// TestLeftWhenEnough: of a chunk no more records are read than one behind those that are asked for.
func TestLeftWhenEnough(t *testing.T) {
	var body []byte
	for range 30 {
		body = append(body, 22, 0)
	}
	c := &chunk{body: body}
	for _, span := range []api.Span{{From: 0, To: 1}, {From: 0, To: 9}, {From: 7, To: 9}, {From: 28, To: 30}, {From: 0, To: 90}} {
		last := -1
		row := c.row(span, func(r record) int {
			last = max(last, r.Stamp)
			return r.Stamp
		})
		if want := min(span.To, 30); len(row) != want-span.From || last != min(want, 29) {
			t.Errorf("of %v %d records, up to %d", span, len(row), last)
		}
	}
}

// TestBefore: the records of one goroutine and of unlike ones are ordered by their stamps alone.
func TestBefore(t *testing.T) {
	a, b := record{api.Rec{Stamp: 3, Kind: 9}, 7, 8}, record{api.Rec{Stamp: 4, Kind: 1}, 1, 2}
	if !a.Before(b) || b.Before(a) || a.Before(a) {
		t.Errorf("%v and %v: %v, %v", a, b, a.Before(b), b.Before(a))
	}
}
