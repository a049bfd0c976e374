package index

import (
	"iter"

	"hindsight/api"
	"hindsight/delta"
)

// chunk is a chunk of events: where it lies, how many records of its goroutine are ahead of it, its bytes.
type chunk struct {
	api.Spot
	ahead int
	body  []byte
}

// record is a record in the trace: whose it is, and which one of that goroutine's, counted from 0 on.
type record struct {
	api.Rec
	g, turn int
}

// Before orders the records of all goroutines by their stamps.
func (r record) Before(s record) bool { return r.Rec.Before(s.Rec) }

func stampOf(r record) int { return r.Stamp }

func turnOf(r record) int { return r.turn }

// records reads a chunk record by record, as far as they are asked for. The file was found good as a whole:
// so none of them can be at fault.
func (c *chunk) records() iter.Seq[record] {
	return func(yield func(record) bool) {
		var state api.State
		for at, turn := 0, c.ahead; at < len(c.body); turn++ {
			var r api.Rec
			r, at, state, _ = delta.Get(state, c.body, at)
			if !yield(record{r, c.Stream, turn}) {
				return
			}
		}
	}
}

// row reads the records whose keys lie in a span. The keys rise from record to record, so the reading ends
// at the first one beyond.
func (c *chunk) row(keys api.Span, key func(record) int) []record {
	var row []record
	for r := range c.records() {
		if key(r) >= keys.To {
			break
		}
		if key(r) >= keys.From {
			row = append(row, r)
		}
	}
	return row
}
