package samples_test

import (
	"slices"
	"testing"

	"hindsight/api"
	"hindsight/samples"
)

// TestUnlike: tests lean on it that the strings are unlike, and as long as they are said to be.
func TestUnlike(t *testing.T) {
	for size, list := range map[int][]string{2: samples.Numbered(api.MaxStrings), api.MaxSite: samples.Longest(64)} {
		seen := map[string]int{}
		for _, s := range list {
			seen[s]++
			if seen[s] > 1 || len(s) != size {
				t.Fatalf("a string of %d bytes, %d times", len(s), seen[s])
			}
		}
	}
}

func TestAllBodies(t *testing.T) {
	list := samples.AllBodies(3, 7, 9)
	seen := map[string]int{}
	for _, b := range list {
		seen[string(b)]++
	}
	if len(list) != 1+2+4+8 || len(seen) != len(list) || seen["\x07\x09\x09"] != 1 {
		t.Errorf("%d bodies, %d unlike ones", len(list), len(seen))
	}
}

func TestRare(t *testing.T) {
	seen := samples.Seen{}
	for range 19 {
		seen[api.ErrEnd]++
		seen[api.ErrLong]++
	}
	seen[api.ErrLong]++
	if rare := seen.Rare(api.ErrLong, api.ErrEnd, api.ErrOver); !slices.Equal(rare, []api.Errno{api.ErrEnd, api.ErrOver}) {
		t.Errorf("rare are %v", rare)
	}
}

// TestDamage: each of the ways changes what it says, with the choices that a list tells.
func TestDamage(t *testing.T) {
	for _, c := range []struct {
		picks []int // the body, the place, the way, and what the way asks for
		want  [][]byte
	}{
		{[]int{0, 2, 0}, [][]byte{{1, 2}, {4, 5}}},
		{[]int{0, 1, 1, 200}, [][]byte{{1, 200, 2, 3}, {4, 5}}},
		{[]int{1, 2, 2, 3}, [][]byte{{1, 2, 3}, {4, 5, 255, 255, 255}}},
		{[]int{0, 2, 3, 2}, [][]byte{{1, 2}, {4, 5}}},
		{[]int{0, 1, 4, 2}, [][]byte{{1, 4, 3}, {4, 5}}},
		{[]int{0, 3, 4}, [][]byte{{1, 2, 3}, {4, 5}}},
		{[]int{0, 2, 5, 9}, [][]byte{{1, 2}, {9, 3}, {4, 5}}},
		{[]int{0, 0, 6}, [][]byte{{1, 2, 3, 5}}},
		{[]int{1, 0, 6}, [][]byte{{1, 2, 3}, {4, 5}}},
		{[]int{1, 0, 7}, [][]byte{{1, 2, 3}, {4, 5}, {4, 5}}},
		{[]int{0, 0, 8}, [][]byte{{4, 5}}},
	} {
		next, whole := 0, [][]byte{{1, 2, 3}, {4, 5}}
		got := samples.Damage(func(below int) int {
			next++
			return c.picks[next-1]
		}, whole)
		if !slices.EqualFunc(got, c.want, slices.Equal) {
			t.Errorf("the choices %v: %v, want %v", c.picks, got, c.want)
		}
		if !slices.EqualFunc(whole, [][]byte{{1, 2, 3}, {4, 5}}, slices.Equal) {
			t.Errorf("the choices %v: what was handed in is %v", c.picks, whole)
		}
	}
}
