package salvage

import (
	"slices"

	"hindsight/api"
	"hindsight/crc"
	"hindsight/frame"
	"hindsight/stream"
)

// scan looks for a frame at every place that lies in none.
func scan(b []byte) ([]api.Spot, []api.Span) {
	var spots []api.Spot
	var between spans
	s := newSums(b)
	for at := 0; at < len(b); {
		f, end, whole := s.frame(at)
		if !whole {
			between.add(at, at+1)
			at++
			continue
		}
		spots = append(spots, spotOf(f, api.Span{From: at, To: end}))
		at = end
	}
	return spots, between
}

// spotOf tells of a frame where it lies and, if it is a chunk of events, what is in it.
func spotOf(f api.Frame, at api.Span) api.Spot {
	s := api.Spot{Kind: f.Kind, Stream: f.Stream, Ord: f.Ord, From: at.From, To: at.To, First: -1, Last: -1}
	if f.Kind != api.FrameEvents {
		return s
	}
	if recs, fault := stream.Chunk(f.Body); fault == api.OK {
		s.First, s.Last, s.Count = recs[0].Stamp, recs[len(recs)-1].Stamp, len(recs)
	}
	return s
}

// sums knows the check sums of the beginnings of bytes, from stride to stride. Tops of long frames may stand
// everywhere, and to take the sum of each one's body byte by byte would never end: so it is worked out from
// the sums of what lies ahead of its two ends.
type sums struct {
	bytes []byte
	ahead []uint32
}

const stride = 256

func newSums(b []byte) *sums {
	s := &sums{b, []uint32{0}}
	for part := range slices.Chunk(b, stride) {
		s.ahead = append(s.ahead, crc.Update(s.ahead[len(s.ahead)-1], part))
	}
	return s
}

// upTo is the check sum of all bytes ahead of a place.
func (s *sums) upTo(place int) uint32 {
	k := place / stride
	return crc.Update(s.ahead[k], s.bytes[k*stride:place])
}

// frame is the whole frame at a place, if one stands there, and the place behind it.
func (s *sums) frame(at int) (api.Frame, int, bool) {
	end, stands := reach(s.bytes, at)
	if !stands || !s.fits(at, end) {
		return api.Frame{}, 0, false
	}
	f, _, fault := frame.Decode(s.bytes, at)
	return f, end, fault == api.OK
}

// fits tells whether the bytes between two places, which begin with a right top, end with the sum of a frame.
func (s *sums) fits(at, end int) bool {
	from, to := at+topSize, end-sumSize
	// Adding undoes itself: what the bytes ahead of the body gave to the sum up to the body's end goes out by
	// being combined into it once more, and in its stead the top's sum comes in.
	ahead := s.upTo(from) ^ number(s.bytes[at+topSumAt:])
	sum, _ := crc.Combine(ahead, s.upTo(to), to-from)
	return sum == number(s.bytes[to:])
}
