package recorder_test

import (
	"bytes"
	"math/rand"
	"slices"
	"testing"

	"hindsight/api"
	"hindsight/frame"
	"hindsight/recorder"
	"hindsight/samples"
)

// diary is a recording of which it is known what was taken, and what of it is safe.
type diary struct {
	*pair
	limit int
	taken []api.Event
	safe  int // so many of them were synced, and no fuse was blown
}

// begin makes a recorder on a tape whose bytes are a recording, with these events, all of which last.
func begin(t *testing.T, b []byte, most, limit int, events []api.Event) *diary {
	t.Helper()
	d := &diary{pair: load(t, b, most), limit: limit, taken: slices.Clone(events), safe: len(events)}
	if e := d.record(limit); e != api.OK || d.rec.Len() != len(events) || d.rec.Held() != 0 {
		t.Fatalf("P14.12: New on %d bytes, limit %d: %d, %d events, want %d", len(b), limit, e, d.rec.Len(), len(events))
	}
	return d
}

func (d *diary) emit(e api.Event) {
	d.t.Helper()
	if d.pair.emit(e) == api.OK {
		d.taken = append(d.taken, e)
	}
}

func (d *diary) sync() {
	d.t.Helper()
	acts := d.plain.fuse // that are left ahead of the Sync of the tape
	if acts > 0 && d.rec.Held() > 0 {
		acts--
	}
	if d.pair.sync() == api.OK && acts != 0 {
		d.safe = len(d.taken)
	}
}

// readable is P14.11.
func (d *diary) readable() {
	d.t.Helper()
	b := d.tape.Bytes()
	got, n := recovered(d.t, b)
	if n != len(b) || !sameEvents(got, d.taken[:len(d.taken)-d.rec.Held()]) {
		d.t.Fatalf("P14.11: Recover takes %d of %d bytes, and tells %d of %d events, of which %d are held", n, len(b), len(got), len(d.taken), d.rec.Held())
	}
}

// ends lets the tape crash, and is P14.12. It answers a recording that goes on behind the crash.
func (d *diary) ends(keep, bit int) *diary {
	d.t.Helper()
	b, lasts := d.tape.Bytes(), len(d.tape.Durable())
	if e := d.crash(keep, bit); e != api.OK {
		d.t.Fatalf("P14.4: Crash(%d, %d) = %d", keep, bit, e)
	}
	after := d.tape.Durable()
	got, n := recovered(d.t, after)
	if len(got) > len(d.taken) || !sameEvents(got, d.taken[:len(got)]) {
		d.t.Fatalf("P14.12: Crash(%d, %d): %d events that are not the first ones of %d", keep, bit, len(got), len(d.taken))
	}
	if len(got) < d.safe {
		d.t.Fatalf("P14.12: Crash(%d, %d): %d events, %d were synced", keep, bit, len(got), d.safe)
	}
	sound := lasts + keep
	if bit >= 0 {
		sound = lasts + bit/8
	}
	if whole, _ := plainRecover(b[:sound]); len(got) < len(whole.events) {
		d.t.Fatalf("P14.12: Crash(%d, %d): %d events, %d lie in frames that are whole", keep, bit, len(got), len(whole.events))
	}
	return begin(d.t, after[:n], d.plain.most, d.limit, got)
}

// some are events with stacks and without, of one to six bytes and more.
var some = []api.Event{
	mark(0),
	{G: 1, Kind: api.Write, Obj: 1000, Arg: 8, Stack: []string{"f", "main"}},
	{G: 1, Kind: api.Write, Obj: 1008, Arg: 8, Stack: []string{"g", "f", "main"}},
	{G: 300, Kind: api.Acquire, Obj: 1 << 60},
	{G: 0, Kind: api.Fork, Arg: 7, Stack: []string{"main"}},
}

// TestEveryCrash: with every number of bytes kept, and every bit of these turned.
func TestEveryCrash(t *testing.T) {
	d := begin(t, nil, 9999, 64, nil)
	d.emit(some[0])
	d.sync()
	n := len(d.tape.Bytes())
	for _, e := range some[1:] {
		d.emit(e)
	}
	d.flush()
	d.readable()
	b := d.tape.Bytes()
	for keep := range len(b) - n + 1 {
		for bit := -1; bit < 8*keep; bit++ {
			x, _ := recorder.LoadTape(b[:n], len(b))
			x.Append(b[n:])
			if e := x.Crash(keep, bit); e != api.OK {
				t.Fatalf("P14.4: Crash(%d, %d) = %d", keep, bit, e)
			}
			after := x.Durable()
			got, taken, e := recorder.Recover(after)
			sound := n + keep
			if bit >= 0 {
				sound = n + bit/8
			}
			whole, end := plainRecover(b[:sound])
			if e != api.OK || taken != end || !sameEvents(got, whole.events) {
				t.Fatalf("P14.12: Crash(%d, %d): %d events, %d bytes, %d, want %d, %d", keep, bit, len(got), taken, e, len(whole.events), end)
			}
		}
	}
}

// TestEveryFuse: the crash comes between any two acts, with any number of bytes kept.
func TestEveryFuse(t *testing.T) {
	run := func(n int) *diary {
		d := begin(t, nil, 9999, 64, nil)
		d.sync()
		d.fuse(n)
		for k := range 3 {
			for _, e := range some {
				d.emit(e)
			}
			if k == 1 {
				d.flush()
			}
			d.emit(mark(k))
			d.sync()
		}
		d.readable()
		return d
	}
	lasting := map[int]int{}
	for n := range 16 {
		d := run(n)
		lasting[d.safe]++
		for keep := range len(d.plain.unsynced()) + 1 {
			for _, bit := range []int{-1, 4*keep + 1, 8*keep - 1} {
				if bit < 8*keep {
					on := run(n).ends(keep, bit)
					on.emit(some[2])
					on.sync()
					on.readable()
				}
			}
		}
	}
	if len(lasting) != 4 || lasting[0] == 0 || lasting[18] == 0 {
		t.Errorf("so many events last: %v", lasting)
	}
}

// TestCrashBehindCrash: recordings that go on behind crash behind crash, on tapes with much room and little.
func TestCrashBehindCrash(t *testing.T) {
	r := rand.New(rand.NewSource(147))
	lost, safe, blown := 0, 0, 0
	for range 60 {
		limit := samples.Limit(r.Intn)
		most := []int{300 + r.Intn(900), 99999}[r.Intn(2)]
		d := begin(t, nil, most, limit, nil)
		for range 1 + r.Intn(8) {
			if r.Intn(2) == 0 {
				d.fuse(r.Intn(8))
			}
			for range r.Intn(20) {
				switch r.Intn(8) {
				case 0:
					d.sync()
				case 1:
					d.flush()
				default:
					d.emit(samples.Event(r.Intn, 5))
				}
			}
			d.readable()
			if d.plain.blown() {
				blown++
			}
			keep := r.Intn(len(d.plain.unsynced()) + 1)
			bit := r.Intn(8*keep+1) - 1
			n := len(d.taken)
			d = d.ends(keep, bit)
			lost += n - len(d.taken)
			safe += len(d.taken)
		}
	}
	if lost < 100 || safe < 100 || blown < 20 {
		t.Errorf("%d events were lost, %d were kept, %d fuses blew", lost, safe, blown)
	}
}

// TestGoesOn: a recorder on what is there writes just what one would write that never stopped, if that one had
// flushed there.
func TestGoesOn(t *testing.T) {
	r := rand.New(rand.NewSource(148))
	for range 60 {
		limit := samples.Limit(r.Intn)
		x, _ := recorder.NewTape(99999)
		y, _ := recorder.NewTape(99999)
		one, _ := recorder.New(x, limit)
		other, _ := recorder.New(y, limit)
		for _, e := range samples.Trace(r.Intn, 80) {
			one.Emit(e)
			other.Emit(e)
			if r.Intn(9) > 0 {
				continue
			}
			one.Flush()
			other.Flush()
			z, _ := recorder.LoadTape(y.Bytes(), 99999)
			next, e := recorder.New(z, limit)
			if e != api.OK || next.Len() != one.Len() {
				t.Fatalf("P14.6: New = %d, Len %d of %d", e, next.Len(), one.Len())
			}
			y, other = z, next
		}
		one.Sync()
		other.Sync()
		if !bytes.Equal(x.Durable(), y.Durable()) {
			t.Fatalf("P14.6: a recorder that goes on writes other bytes")
		}
	}
}

// TestDeadBytes: a recorder is made on what is read, dead bytes too, and goes on behind these.
func TestDeadBytes(t *testing.T) {
	two := load(t, nil, 999)
	two.fuse(0)
	two.record(64)
	two.emit(some[1])
	two.sync()
	if len(two.tape.Durable()) != 0 {
		t.Errorf("P14.3: dead bytes last")
	}
	if e := two.record(64); e != api.OK || two.rec.Len() != 1 {
		t.Fatalf("P14.6: New on dead bytes = %d", e)
	}
	two.emit(some[2])
	two.sync()
	recovered(t, two.tape.Bytes())
	two.crash(0, -1)
	if e := two.record(128); e != api.OK || two.rec.Len() != 0 {
		t.Errorf("P14.6: New behind a crash that left nothing = %d", e)
	}
}

// TestHeldBehindFullTape: a flush writes all of its frames or none, on tapes of every length.
func TestHeldBehindFullTape(t *testing.T) {
	whole := taped(t, 64, some[1])
	for most := 26; most <= len(whole); most++ {
		two := load(t, nil, most)
		two.record(64)
		two.emit(some[1])
		want := api.ErrTape
		if most == len(whole) {
			want = api.OK
		}
		for range 2 {
			if e := two.sync(); e != want {
				t.Errorf("P14.9: Sync on a tape of %d = %d", most, e)
			}
		}
		if got := two.tape.Bytes(); most < len(whole) && len(got) != 26 || most == len(whole) && !bytes.Equal(got, whole) {
			t.Errorf("P14.9: a tape of %d has %d bytes", most, len(got))
		}
		if len(two.tape.Durable()) != 0 && want != api.OK {
			t.Errorf("P14.9: a Sync without room synced")
		}
		two.emit(some[2])
		two.flush()
	}
	fs, _, _ := frame.Split(whole)
	if len(fs) != 4 {
		t.Errorf("P14.9: %d frames", len(fs))
	}
}

// TestMisuse: two recorders on one tape, a crash under them, others who write to it: nothing is promised of the
// recording then, but that all calls answer, and that a recorder knows what it took.
func TestMisuse(t *testing.T) {
	r := rand.New(rand.NewSource(153))
	faults := samples.Seen{}
	for range 200 {
		x, _ := recorder.NewTape(200 + r.Intn(2000))
		one, _ := recorder.New(x, 64)
		other, _ := recorder.New(x, 64)
		taken := 0
		for range 60 {
			switch r.Intn(8) {
			case 0:
				faults[x.Crash(r.Intn(30), -1)]++
			case 1:
				faults[x.Append(make([]byte, r.Intn(3)))]++
			case 2:
				faults[one.Sync()]++
			case 3:
				faults[other.Flush()]++
			case 4:
				faults[other.Emit(samples.Event(r.Intn, 3))]++
			default:
				e := one.Emit(samples.Event(r.Intn, 3))
				if faults[e]++; e == api.OK {
					taken++
				}
			}
			recovered(t, x.Bytes())
			if one.Len() != taken || one.Held() > taken {
				t.Fatalf("P14.10: Len %d, Held %d, %d were taken", one.Len(), one.Held(), taken)
			}
		}
	}
	if rare := faults.Rare(api.OK, api.ErrArg, api.ErrTape); len(rare) > 0 || len(faults) != 3 {
		t.Errorf("seen were %v", faults)
	}
}
