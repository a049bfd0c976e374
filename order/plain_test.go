package order_test

import (
	"slices"
	"testing"

	"hindsight/api"
	"hindsight/clock"
	"hindsight/order"
)

// ev is an event without a stack.
func ev(g, kind int, obj uint64, arg uint64) api.Event {
	return api.Event{G: g, Kind: kind, Obj: obj, Arg: arg}
}

// plain is a run, and what happens before what in it: the document's words, one by one.
type plain struct {
	run    []api.Event
	before [][]bool // before[i][j]: i happens before j
}

func newPlain(run []api.Event) *plain {
	p := &plain{run, make([][]bool, len(run))}
	for i := range run {
		p.before[i] = make([]bool, len(run))
	}
	for j := range run { // what happens before an event behind which a step leads to j is known by then
		for k := range j {
			if !p.step(k, j) {
				continue
			}
			p.before[k][j] = true
			for i := range k {
				p.before[i][j] = p.before[i][j] || p.before[i][k]
			}
		}
	}
	return p
}

// count is how many events from one place to another, both of them in, are of a goroutine; of any, if it is -1.
func (p *plain) count(from, to, g int) int {
	n := 0
	for _, e := range p.run[from : to+1] {
		if g == -1 || e.G == g {
			n++
		}
	}
	return n
}

// nth tells the how manieth an event is of those with its kind, its Obj and its Arg.
func (p *plain) nth(i int) int {
	n := 0
	for _, e := range p.run[:i+1] {
		if e.Kind == p.run[i].Kind && e.Obj == p.run[i].Obj && e.Arg == p.run[i].Arg {
			n++
		}
	}
	return n
}

// room is that of a channel.
func (p *plain) room(channel uint64) int {
	for _, e := range p.run {
		if e.Kind == api.Make && e.Obj == channel {
			return int(e.Arg)
		}
	}
	return -1
}

// step tells whether there is a step from i to j, i ahead of j.
func (p *plain) step(i, j int) bool {
	a, b := p.run[i], p.run[j]
	if a.G == b.G && p.count(i, j, a.G) == 2 {
		return true
	}
	return p.goroutineStep(i, j) || a.Obj == b.Obj && (p.lockStep(a, b) || p.channelStep(i, j) || p.otherStep(a, b))
}

// goroutineStep is by the second rule.
func (p *plain) goroutineStep(i, j int) bool {
	a, b, end := p.run[i], p.run[j], len(p.run)-1
	forks := a.Kind == api.Fork && int(a.Arg) == b.G && p.count(0, j, b.G) == 1
	joins := b.Kind == api.Join && int(b.Arg) == a.G && p.count(i, end, a.G) == 1
	idle := a.Kind == api.Fork && b.Kind == api.Join && a.Arg == b.Arg && p.count(0, end, int(a.Arg)) == 0
	return forks || joins || idle
}

// lockStep is by the third rule, of one number.
func (p *plain) lockStep(a, b api.Event) bool {
	return a.Kind == api.Release && (b.Kind == api.Acquire || b.Kind == api.RAcquire) || a.Kind == api.RRelease && b.Kind == api.Acquire
}

// channelStep is by the fourth rule, of one number.
func (p *plain) channelStep(i, j int) bool {
	a, b := p.run[i], p.run[j]
	room := p.room(a.Obj)
	received := a.Kind == api.Recv && a.Arg == 1
	switch {
	case a.Kind == api.Send && b.Kind == api.Recv && b.Arg == 1:
		return p.nth(i) == p.nth(j)
	case received && b.Kind == api.Send && room >= 1:
		return p.nth(i)+room == p.nth(j)
	case received && b.Kind == api.Ack && room == 0:
		return p.nth(i) == p.nth(p.acknowledged(j))
	case a.Kind == api.Close:
		return b.Kind == api.Recv && b.Arg == 0
	}
	return false
}

// acknowledged is the Send to which an Ack belongs: the goroutine's event right ahead of it.
func (p *plain) acknowledged(ack int) int {
	i := ack - 1
	for p.run[i].G != p.run[ack].G {
		i--
	}
	return i
}

// otherStep is by the last three rules, of one number.
func (p *plain) otherStep(a, b api.Event) bool {
	lowers := a.Kind == api.Add && a.Arg%2 == 1 // the odd numbers are those below 0, by the zigzag
	ran := a.Kind == api.Once && a.Arg == 1
	stores := a.Kind == api.Store || a.Kind == api.Swap
	loads := b.Kind == api.Load || b.Kind == api.Swap
	return lowers && b.Kind == api.Wait || ran && b.Kind == api.Once && b.Arg == 0 || stores && loads
}

// goroutines are those that have events, rising.
func (p *plain) goroutines() []int {
	var gs []int
	for _, e := range p.run {
		gs = append(gs, e.G)
	}
	slices.Sort(gs)
	return slices.Compact(gs)
}

func (p *plain) clock(i int) []api.Tick {
	var c []api.Tick
	for _, g := range p.goroutines() {
		n := 0
		for x, e := range p.run {
			if e.G == g && (x == i || p.before[x][i]) {
				n++
			}
		}
		if n > 0 {
			c = append(c, api.Tick{G: g, T: n})
		}
	}
	return c
}

func (p *plain) between(i, j int) bool {
	for k := range p.run {
		if p.before[i][k] && p.before[k][j] {
			return true
		}
	}
	return false
}

func (p *plain) into(j int) []int {
	var into []int
	for i := range p.run {
		if p.before[i][j] && !p.between(i, j) {
			into = append(into, i)
		}
	}
	return into
}

func (p *plain) chain(i, j int, into [][]int) []int {
	if i != j && !p.before[i][j] {
		return nil
	}
	chain := []int{j}
	for c := j; c != i; {
		ahead := -1
		for _, x := range into[c] {
			if x == i || p.before[i][x] {
				ahead = max(ahead, x)
			}
		}
		chain = append(chain, ahead)
		c = ahead
	}
	slices.Reverse(chain)
	return chain
}

// build is Build of a run, which must take it.
func build(t *testing.T, run []api.Event) *order.Order {
	t.Helper()
	o, at, fault := order.Build(run)
	if o == nil || at != -1 || fault != api.OK || o.Len() != len(run) {
		t.Fatalf("P18.1: Build(%v) = %v, %d, %d", run, o != nil, at, fault)
	}
	return o
}

// holds holds all calls on a run's order, and a tracker of it, against the plain reading.
func holds(t *testing.T, run []api.Event) *plain {
	t.Helper()
	p, o := newPlain(run), build(t, run)
	clocks, into := make([][]api.Tick, len(run)), make([][]int, len(run))
	tracker := order.New()
	for i, e := range run {
		clocks[i], into[i] = p.clock(i), p.into(i)
		if got, fault := o.Clock(i); !slices.Equal(got, clocks[i]) || fault != api.OK {
			t.Fatalf("P18.2: of %v: Clock(%d) = %v, %d, want %v", run, i, got, fault, clocks[i])
		}
		if got, fault := o.Into(i); !slices.Equal(got, into[i]) || fault != api.OK {
			t.Fatalf("P18.4: of %v: Into(%d) = %v, %d, want %v", run, i, got, fault, into[i])
		}
		if got, fault := tracker.Add(e); !slices.Equal(got, clocks[i]) || fault != api.OK {
			t.Fatalf("P18.6: of %v: Add of %d = %v, %d, want %v", run, i, got, fault, clocks[i])
		}
	}
	for i := range run {
		for j := range run {
			if got, fault := o.Before(i, j); got != p.before[i][j] || fault != api.OK {
				t.Fatalf("P18.3: of %v: Before(%d, %d) = %t, %d", run, i, j, got, fault)
			}
			if below, _ := clock.Leq(clocks[i], clocks[j]); p.before[i][j] != (below && i != j) {
				t.Fatalf("P18.7: of %v: %d, %d: the clocks %v, %v", run, i, j, clocks[i], clocks[j])
			}
			want := p.chain(i, j, into)
			if got, fault := o.Chain(i, j); !slices.Equal(got, want) || fault != api.OK {
				t.Fatalf("P18.5: of %v: Chain(%d, %d) = %v, %d, want %v", run, i, j, got, fault, want)
			}
		}
	}
	return p
}
