package chunk_test

import (
	"bytes"
	"slices"
	"testing"

	"hindsight/api"
	"hindsight/chunk"
)

func TestLimits(t *testing.T) {
	for limit, want := range map[int]bool{63: false, 64: true, 65: true, 1048576: true, 1048577: false, 0: false, -64: false} {
		if chunk.LimitMayBe(limit) != want {
			t.Errorf("the limit %d: %v", limit, !want)
		}
	}
}

// record is a record of a length of its own, with its number in all its bytes.
func record(id int) []byte {
	return bytes.Repeat([]byte{byte(id)}, []int{3, 60, 2, 59, 1, 100, 0, 63}[id])
}

func TestWrite(t *testing.T) {
	for _, c := range []struct {
		first, end int
		ids        [][]int // of the records in each body
	}{
		{0, 0, nil},
		{5, 5, nil},
		{6, 5, nil},
		{0, 1, [][]int{{0}}},
		{0, 2, [][]int{{0, 1}}}, // 64 bytes
		{0, 3, [][]int{{0, 1}, {2}}},
		{0, 8, [][]int{{0, 1}, {2, 3, 4}, {5}, {6, 7}}},
		{1, 4, [][]int{{1, 2}, {3}}},
		{1, 3, [][]int{{1, 2}}},
		{4, 8, [][]int{{4}, {5}, {6, 7}}},
		{5, 6, [][]int{{5}}}, // longer than the limit
	} {
		var want [][]byte
		for _, ids := range c.ids {
			b := []byte{byte(ids[0])}
			for _, id := range ids {
				b = append(b, record(id)...)
			}
			want = append(want, b)
		}
		if got := chunk.Write(c.first, c.end, 64, record); !slices.EqualFunc(got, want, bytes.Equal) {
			t.Errorf("the records from %d on, ahead of %d: %v, want %v", c.first, c.end, got, want)
		}
	}
	if got := chunk.Write(300, 301, 64, func(int) []byte { return []byte{7} }); len(got) != 1 || !bytes.Equal(got[0], []byte{172, 2, 7}) {
		t.Errorf("the record 300: %v", got)
	}
}

func TestRead(t *testing.T) {
	for _, c := range []struct {
		body  []byte
		first int
		at    []int
		e     api.Errno
	}{
		{nil, 0, nil, api.ErrEnd},
		{[]byte{128}, 0, nil, api.ErrEnd},
		{[]byte{128, 0, 2}, 0, nil, api.ErrLong},
		{[]byte{5, 2, 2}, 4, nil, api.ErrForm},
		{[]byte{5, 2, 2}, 6, nil, api.ErrForm},
		{[]byte{5}, 5, nil, api.ErrForm},
		{[]byte{5, 1, 2, 9, 1}, 5, []int{1, 2, 4}, api.OK},
		{[]byte{172, 2, 2, 9, 1}, 300, []int{2, 4}, api.OK},
		{[]byte{5, 1, 0, 1}, 5, []int{1, 2}, api.ErrTake},
	} {
		var at []int
		e := chunk.Read(c.body, c.first, func(place int) (int, api.Errno) {
			at = append(at, place)
			if c.body[place] == 0 {
				return 0, api.ErrTake
			}
			return place + int(c.body[place]), api.OK
		})
		if e != c.e || !slices.Equal(at, c.at) {
			t.Errorf("Read(%v, %d) = %d, with records at %v, want %d, %v", c.body, c.first, e, at, c.e, c.at)
		}
	}
}

func TestSame(t *testing.T) {
	one := [][]byte{{1, 2}, {3}}
	for _, c := range []struct {
		b    [][]byte
		want bool
	}{{[][]byte{{1, 2}, {3}}, true}, {[][]byte{{1}, {2, 3}}, false}, {[][]byte{{1, 2}}, false}, {[][]byte{{1, 2}, {3}, {}}, false}, {[][]byte{{1, 2}, {4}}, false}} {
		if chunk.Same(one, c.b) != c.want {
			t.Errorf("Same(%v, %v) = %v", one, c.b, !c.want)
		}
	}
	if !chunk.Same(nil, [][]byte{}) {
		t.Errorf("none and no bodies are not the same")
	}
}
