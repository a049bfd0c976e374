package recorder_test

import (
	"bytes"
	"math"
	"math/rand"
	"testing"

	"hindsight/api"
	"hindsight/recorder"
)

func TestTapesThatMayNotBe(t *testing.T) {
	for _, most := range []int{-1, -2, math.MinInt, maxTape + 1, 2 * maxTape, math.MaxInt} {
		if x, e := recorder.NewTape(most); x != nil || e != api.ErrArg {
			t.Errorf("P14.1: NewTape(%d) = %v, %d", most, x, e)
		}
		// Both errors are due where b has more than most bytes: ErrArg is named first.
		for _, b := range [][]byte{nil, {}, {1}, make([]byte, 100)} {
			if x, e := recorder.LoadTape(b, most); x != nil || e != api.ErrArg {
				t.Errorf("P14.1: LoadTape(%d bytes, %d) = %v, %d", len(b), most, x, e)
			}
		}
	}
	for n := range 6 {
		for most := range 6 {
			x, e := recorder.LoadTape(make([]byte, n), most)
			if want := n > most; (x == nil) != want || (e == api.ErrTape) != want || (e == api.OK) == want {
				t.Errorf("P14.1: LoadTape(%d bytes, %d) = %v, %d", n, most, x, e)
			}
		}
	}
}

func TestTapesThatAreFull(t *testing.T) {
	for most := range 12 {
		x, e := recorder.NewTape(most)
		if e != api.OK || len(x.Bytes())+len(x.Durable()) > 0 {
			t.Fatalf("P14.1: NewTape(%d) = %v, %d", most, x, e)
		}
		if e := x.Append(make([]byte, most+1)); e != api.ErrTape || len(x.Bytes()) != 0 {
			t.Errorf("P14.2: Append of %d bytes onto a tape of %d = %d", most+1, most, e)
		}
		for k := range most {
			if e := x.Append([]byte{byte(k)}); e != api.OK {
				t.Errorf("P14.2: Append onto %d bytes of %d = %d", k, most, e)
			}
		}
		if e := x.Append([]byte{99}); e != api.ErrTape || len(x.Bytes()) != most {
			t.Errorf("P14.2: Append onto a full tape = %d, %d bytes of %d", e, len(x.Bytes()), most)
		}
		for _, none := range [][]byte{nil, {}} {
			if e := x.Append(none); e != api.OK || len(x.Bytes()) != most {
				t.Errorf("P14.2: Append of nothing onto a full tape = %d", e)
			}
		}
	}
}

func TestGreatestTape(t *testing.T) {
	all := bytes.Repeat([]byte{7, 8}, maxTape/2)
	x, e := recorder.LoadTape(all, maxTape)
	if e != api.OK || !bytes.Equal(x.Durable(), all) {
		t.Fatalf("P14.1: LoadTape of MaxTape bytes = %d", e)
	}
	if e := x.Append([]byte{1}); e != api.ErrTape {
		t.Errorf("P14.2: Append behind MaxTape bytes = %d", e)
	}
	if e := x.Append(nil); e != api.OK {
		t.Errorf("P14.2: Append of nothing behind MaxTape bytes = %d", e)
	}
	x, e = recorder.NewTape(maxTape)
	if e != api.OK {
		t.Fatalf("P14.1: NewTape(MaxTape) = %d", e)
	}
	if e := x.Append(append(all, 1)); e != api.ErrTape || len(x.Bytes()) != 0 {
		t.Errorf("P14.2: Append of MaxTape bytes and one = %d", e)
	}
	if e := x.Append(all); e != api.OK || !bytes.Equal(x.Bytes(), all) || len(x.Durable()) != 0 {
		t.Errorf("P14.2: Append of MaxTape bytes = %d", e)
	}
	if e := x.Crash(maxTape, 8*maxTape-1); e != api.OK {
		t.Errorf("P14.4: Crash with the last bit of MaxTape bytes = %d", e)
	}
	if got := x.Durable(); len(got) != maxTape || got[maxTape-1] != 8^128 || !bytes.Equal(got[:maxTape-1], all[:maxTape-1]) {
		t.Errorf("P14.4: the last bit of MaxTape bytes")
	}
}

// acts are calls on a tape, with arguments that may be and that may not.
var acts = []func(two *pair) api.Errno{
	func(two *pair) api.Errno { return two.append(nil) },
	func(two *pair) api.Errno { return two.append([]byte{1}) },
	func(two *pair) api.Errno { return two.append([]byte{2, 3, 4}) },
	func(two *pair) api.Errno { return two.syncTape() },
	func(two *pair) api.Errno { return two.fuse(0) },
	func(two *pair) api.Errno { return two.fuse(1) },
	func(two *pair) api.Errno { return two.fuse(2) },
	func(two *pair) api.Errno { return two.fuse(-1) },
	func(two *pair) api.Errno { return two.crash(0, -1) },
	func(two *pair) api.Errno { return two.crash(1, -1) },
	func(two *pair) api.Errno { return two.crash(1, 7) },
	func(two *pair) api.Errno { return two.crash(2, 8) },
}

// TestAllActs: all rows of a few calls, on tapes of a few bytes.
func TestAllActs(t *testing.T) {
	seen := map[api.Errno]int{}
	row := make([]int, 5)
	for n := 0; ; n++ {
		two := load(t, []byte{9}, 6)
		for _, k := range row {
			seen[acts[k](two)]++
		}
		k := 0
		for ; k < len(row) && row[k] == len(acts)-1; k++ {
			row[k] = 0
		}
		if k == len(row) {
			break
		}
		row[k]++
	}
	if seen[api.OK] == 0 || seen[api.ErrArg] == 0 || seen[api.ErrTape] == 0 || len(seen) != 3 {
		t.Errorf("seen were %v", seen)
	}
}

func TestManyActs(t *testing.T) {
	r := rand.New(rand.NewSource(141))
	seen := map[api.Errno]int{}
	for range 400 {
		two := load(t, make([]byte, r.Intn(4)), 4+r.Intn(60))
		for range r.Intn(60) {
			b := make([]byte, r.Intn(9))
			r.Read(b)
			var e api.Errno
			switch r.Intn(10) {
			case 0:
				e = two.syncTape()
			case 1:
				e = two.fuse(r.Intn(9) - 1)
			case 2:
				n := len(two.plain.unsynced())
				keep := r.Intn(n+4) - 1
				e = two.crash(keep, r.Intn(8*max(keep, 0)+6)-3)
			default:
				e = two.append(b)
			}
			seen[e]++
		}
	}
	if seen[api.OK] < 100 || seen[api.ErrArg] < 100 || seen[api.ErrTape] < 100 {
		t.Errorf("seen were %v", seen)
	}
}

// TestFuses: a fuse of every number in a row of acts. A crash behind them leaves what it leaves behind so many
// of them, and who goes on working sees nothing of it.
func TestFuses(t *testing.T) {
	row := []func(two *pair){
		func(two *pair) { two.append([]byte{1, 2}) },
		func(two *pair) { two.append(nil) },
		func(two *pair) { two.syncTape() },
		func(two *pair) { two.append([]byte{3}) },
		func(two *pair) { two.syncTape() },
		func(two *pair) { two.syncTape() },
		func(two *pair) { two.append([]byte{4, 5}) },
		func(two *pair) { two.append([]byte{6}) },
	}
	for n := range len(row) + 3 {
		for keep := range 4 {
			fused, then := load(t, []byte{7}, 20), load(t, []byte{7}, 20)
			fused.append([]byte{8})
			then.append([]byte{8})
			fused.fuse(n)
			for k, act := range row {
				fused.append(make([]byte, 99)) // refused: it counts for nothing
				act(fused)
				if k < n {
					act(then)
				}
				if k >= n-1 {
					fused.fuse(99) // a blown fuse stays
				}
			}
			if got := fused.tape.Bytes(); !bytes.Equal(got, []byte{7, 8, 1, 2, 3, 4, 5, 6}) {
				t.Fatalf("P14.3: a fuse of %d: Bytes are %v", n, got)
			}
			if n > len(row) {
				fused.fuse(0) // in the place of one that is not blown
			}
			bit := 8*keep - 1
			got, want := fused.crash(keep, bit), then.crash(keep, bit)
			if got != want {
				t.Fatalf("P14.4: a fuse of %d: Crash keeps %d: %d, want %d", n, keep, got, want)
			}
			if got, want := fused.tape.Durable(), then.tape.Durable(); !bytes.Equal(got, want) {
				t.Fatalf("P14.3: a fuse of %d, %d kept: %v last, want %v", n, keep, got, want)
			}
			if got != api.OK {
				continue // nothing crashed, so the fuse is there still
			}
			fused.append([]byte{8})
			fused.syncTape()
			if got := fused.tape.Durable(); got[len(got)-1] != 8 {
				t.Errorf("P14.4: there is a fuse behind a crash: %v", got)
			}
		}
	}
}

// TestCrashes: every number of bytes kept, with every bit turned, and all that may not be.
func TestCrashes(t *testing.T) {
	for synced := range 3 {
		for loose := range 5 {
			for keep := -2; keep <= loose+2; keep++ {
				for bit := -3; bit <= 8*loose+9; bit++ {
					two := load(t, []byte{1, 2, 3}[:synced], 12)
					two.append([]byte{170, 85, 0, 255, 77}[:loose])
					two.crash(keep, bit)
					two.append([]byte{66, 99})
					two.crash(1, 3) // behind it
					two.crash(0, -1)
				}
			}
		}
	}
	for _, c := range [][2]int{{math.MaxInt, -1}, {math.MinInt, -1}, {math.MaxInt, math.MaxInt}, {1, math.MaxInt}, {1, math.MinInt}, {1 << 61, 0}} {
		two := load(t, []byte{1}, 12)
		two.append([]byte{2, 3})
		if e := two.crash(c[0], c[1]); e != api.ErrArg {
			t.Errorf("P14.4: Crash(%d, %d) = %d", c[0], c[1], e)
		}
	}
	// The eighth example.
	two := load(t, []byte{1, 2}, 12)
	for _, c := range []struct {
		keep, bit int
		e         api.Errno
	}{{1, -1, api.ErrArg}, {0, 0, api.ErrArg}, {-1, -1, api.ErrArg}, {0, -2, api.ErrArg}, {0, -1, api.OK}} {
		if e := two.crash(c.keep, c.bit); e != c.e {
			t.Errorf("P14.4: Crash(%d, %d) = %d, want %d", c.keep, c.bit, e, c.e)
		}
	}
}

// TestBits: the bits are numbered from the lowest of the first unsynced byte on.
func TestBits(t *testing.T) {
	for bit := range 24 {
		x, _ := recorder.LoadTape([]byte{255, 0}, 9)
		x.Append([]byte{0, 0, 0})
		if e := x.Crash(3, bit); e != api.OK {
			t.Fatalf("P14.4: Crash(3, %d) = %d", bit, e)
		}
		want := []byte{255, 0, 0, 0, 0}
		want[2+bit/8] = byte(1) << (bit % 8)
		if got := x.Durable(); !bytes.Equal(got, want) {
			t.Errorf("P14.4: the bit %d: %v", bit, got)
		}
	}
}
