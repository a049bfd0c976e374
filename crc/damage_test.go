package crc_test

import (
	"math/bits"
	"math/rand"
	"testing"

	"hindsight/api"
	"hindsight/crc"
)

// rank tells how many of the numbers no others of them make by changing bits: if it is all of them,
// no choice of one or more of them makes 0.
func rank(numbers []uint32) int {
	var leading [32]uint32
	count := 0
	for _, x := range numbers {
		for x != 0 && leading[bits.Len32(x)-1] != 0 {
			x ^= leading[bits.Len32(x)-1]
		}
		if x != 0 {
			leading[bits.Len32(x)-1] = x
			count++
		}
	}
	return count
}

// TestBursts looks at every burst in a window at once: the 32 changes of the window's bits are free of each other.
func TestBursts(t *testing.T) {
	r := rand.New(rand.NewSource(8))
	for _, n := range []int{1, 2, 3, 4, 5, 8, 100, 11450, 1 << 20, api.MaxFile - 1, api.MaxFile} {
		width := min(32, 8*n)
		for _, from := range []int{0, min(1, 8*n-width), r.Intn(8*n - width + 1), r.Intn(8*n - width + 1), 8*n - width} {
			var changes []uint32
			for k := range width {
				changes = append(changes, flip(t, n, from+k))
			}
			if got := rank(changes); got != width {
				t.Errorf("P2.7: in the window at %d of %d bytes some burst changes nothing (rank %d of %d)", from, n, got, width)
			}
		}
	}
}

// TestSomeBursts asks Flip for whole bursts.
func TestSomeBursts(t *testing.T) {
	r := rand.New(rand.NewSource(9))
	for _, n := range []int{4, 5, 40, 11450, api.MaxFile} {
		for _, pattern := range registers(r) {
			from := r.Intn(8*n - 31)
			var burst []int
			for k := range 32 {
				if pattern>>k&1 == 1 {
					burst = append(burst, from+k)
				}
			}
			if f := flip(t, n, burst...); (f == 0) != (len(burst) == 0) {
				t.Errorf("P2.7: Flip(%d, %v) = %08X", n, burst, f)
			}
		}
	}
}

// TestFewBitsAll looks at every choice of up to three bits of 11450 bytes and their sum. A bit of the
// sum changes itself alone; and what one bit changes is a step of what the bit behind it changes: so,
// if some choice changed nothing, stepping back would make one out of it that has the first number.
func TestFewBitsAll(t *testing.T) {
	const n = 11450
	var changes []uint32
	for k := range 32 {
		changes = append(changes, 1<<(31-k))
	}
	for k := 8*n - 1; k >= 0; k-- {
		changes = append(changes, flip(t, n, k))
	}
	seen := map[uint32]int{}
	for k, x := range changes {
		if k > 0 && x != stepOf(changes[k-1]) {
			t.Fatalf("P2.5: the bit %d of %d bytes changes the sum by %08X, want %08X", 8*n+31-k, n, x, stepOf(changes[k-1]))
		}
		if x == 0 || seen[x] > 0 {
			t.Fatalf("P2.8: one or two bits of %d bytes and their sum change nothing", n)
		}
		seen[x] = k + 1
	}
	for _, x := range changes[1:] {
		if seen[x^changes[0]] > 0 {
			t.Fatalf("P2.8: three bits of %d bytes and their sum change nothing", n)
		}
	}
}

// TestFewBits asks Flip for whole choices, those at the run's edges among them.
func TestFewBits(t *testing.T) {
	r := rand.New(rand.NewSource(10))
	for _, n := range []int{1, 2, 10, 1000, 11449, 11450} {
		last := 8*n - 1
		choices := [][]int{{0}, {last}, {0, last}, {0, 1, last}, {0, last - 1, last}}
		for range 2000 {
			choices = append(choices, r.Perm(min(8*n, 64))[:1+r.Intn(3)], someBits(r, n, 1+r.Intn(3)))
		}
		for _, bad := range choices {
			if !unlike(bad) {
				continue
			}
			if f := flip(t, n, bad...); bits.OnesCount32(f) < 4-len(bad) {
				t.Errorf("P2.8: Flip(%d, %v) = %08X", n, bad, f)
			}
		}
	}
}

func unlike(numbers []int) bool {
	seen := map[int]int{}
	for _, x := range numbers {
		seen[x]++
	}
	return len(seen) == len(numbers)
}

// TestFewBitsOfRunAndSum turns bits of a run and of the sum behind it: what stands as the sum must not be the sum.
func TestFewBitsOfRunAndSum(t *testing.T) {
	r := rand.New(rand.NewSource(11))
	for _, n := range []int{0, 1, 3, 100, 11450} {
		run := someBytes(r, n)
		sum := crc.Sum(run)
		for range 200 {
			bad := someBits(r, n+4, 1+r.Intn(3))
			if !unlike(bad) {
				continue
			}
			whole := append(run[:n:n], byte(sum), byte(sum>>8), byte(sum>>16), byte(sum>>24))
			whole = turned(whole, bad)
			stands := uint32(whole[n]) | uint32(whole[n+1])<<8 | uint32(whole[n+2])<<16 | uint32(whole[n+3])<<24
			if crc.Sum(whole[:n]) == stands {
				t.Errorf("P2.8: %d bytes and their sum with the bits %v turned are not told", n, bad)
			}
		}
	}
}
