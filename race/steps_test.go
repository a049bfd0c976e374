package race_test

import (
	"slices"
	"testing"

	"hindsight/api"
)

// of is an event of the lock, channel, wait group, once or atomic 5.
func of(g, kind int, arg uint64) api.Event { return ev(g, kind, 5, arg) }

func acquire(g int) api.Event  { return of(g, api.Acquire, 0) }
func release(g int) api.Event  { return of(g, api.Release, 0) }
func racquire(g int) api.Event { return of(g, api.RAcquire, 0) }
func rrelease(g int) api.Event { return of(g, api.RRelease, 0) }
func send(g int) api.Event     { return of(g, api.Send, 0) }
func recv(g int) api.Event     { return of(g, api.Recv, 1) }
func ack(g int) api.Event      { return of(g, api.Ack, 0) }

func run(events ...api.Event) []api.Event { return events }

// TestSteps: each step of the order takes the race of two writes away, and without it there is one. The
// goroutines 1 and 2 were begun by then; 1 writes first, or whoever the events say.
func TestSteps(t *testing.T) {
	const lower, keep, raise = 1, 0, 2
	a, b := write(1, 8, 1), write(2, 8, 1)

	for name, x := range map[string]struct {
		calm  []api.Event   // it has no race
		races [][]api.Event // each has one, of its two accesses
	}{
		"of one goroutine": {run(a, a), [][]api.Event{run(a, b), run(write(0, 8, 1), a)}},
		"a Fork": {run(a, ev(1, api.Fork, 0, 3), write(3, 8, 1)), [][]api.Event{
			run(ev(1, api.Fork, 0, 3), a, write(3, 8, 1)), run(a, ev(2, api.Fork, 0, 3), write(3, 8, 1)), run(ev(1, api.Fork, 0, 3), write(3, 8, 1), a)}},
		"a Join": {run(a, ev(2, api.Join, 0, 1), b), [][]api.Event{
			run(a, b), run(a, ev(0, api.Join, 0, 1), b), run(a, b, ev(2, api.Join, 0, 1))}},
		"a Join of one whose last event is another": {run(a, ev(1, api.Mark, 5, 0), ev(2, api.Join, 0, 1), b), [][]api.Event{run(a, ev(1, api.Mark, 5, 0), b)}},
		"the Fork and the Join of one that did nothing": {run(a, ev(1, api.Fork, 0, 3), ev(2, api.Join, 0, 3), b), [][]api.Event{
			run(a, ev(1, api.Fork, 0, 3), b), run(ev(1, api.Fork, 0, 3), a, ev(2, api.Join, 0, 3), b)}},
		"goroutine 0 joined": {run(write(0, 8, 1), ev(1, api.Join, 0, 0), a), [][]api.Event{run(write(0, 8, 1), a)}},
		"a Release and an Acquire": {run(acquire(1), a, release(1), acquire(2), b), [][]api.Event{
			run(a, b), run(acquire(1), release(1), a, acquire(2), b), run(acquire(1), a, release(1), b, acquire(2)),
			run(acquire(1), a, release(1), ev(2, api.Acquire, 6, 0), b), run(acquire(1), a, b)}},
		"a Release and an RAcquire": {run(acquire(1), a, release(1), racquire(2), b), [][]api.Event{
			run(acquire(1), a, release(1), ev(2, api.RAcquire, 6, 0), b)}},
		"an RRelease and an Acquire": {run(racquire(1), a, rrelease(1), acquire(2), b), [][]api.Event{
			run(racquire(1), a, rrelease(1), racquire(2), b), run(racquire(1), a, rrelease(1), ev(2, api.Acquire, 6, 0), b)}},
		"a Release far ahead": {run(acquire(1), a, release(1), acquire(0), release(0), racquire(0), rrelease(0), racquire(2), b), [][]api.Event{
			run(racquire(1), a, rrelease(1), racquire(0), rrelease(0), racquire(2), b)}},
		"a Send and its Recv": {run(of(0, api.Make, 2), a, send(1), recv(2), b), [][]api.Event{
			run(of(0, api.Make, 2), send(1), a, recv(2), b), run(of(0, api.Make, 2), a, send(1), b, recv(2)),
			run(of(0, api.Make, 2), send(0), a, send(1), recv(2), b), run(of(0, api.Make, 2), a, send(1), recv(0), b)}},
		"the second Send and its Recv": {run(of(0, api.Make, 2), send(0), a, send(1), recv(2), recv(2), b), [][]api.Event{
			run(of(0, api.Make, 2), send(0), a, send(1), recv(2), recv(0), b)}},
		"a Recv and the Send that takes its room": {run(of(0, api.Make, 1), send(0), a, recv(1), send(2), b), [][]api.Event{
			run(of(0, api.Make, 2), send(0), a, recv(1), send(2), b), run(of(0, api.Make, 1), send(0), recv(1), a, send(2), b),
			run(of(0, api.Make, 1), send(0), a, recv(1), send(0), b)}},
		"room for two": {run(of(0, api.Make, 2), send(0), send(0), a, recv(1), send(2), b), [][]api.Event{
			run(of(0, api.Make, 2), send(0), send(0), recv(0), a, recv(1), send(2), b), run(of(0, api.Make, 3), send(0), send(0), a, recv(1), send(2), b)}},
		"a Recv and the Ack": {run(of(0, api.Make, 0), send(2), a, recv(1), ack(2), b), [][]api.Event{
			run(of(0, api.Make, 0), send(2), recv(1), a, ack(2), b), run(of(0, api.Make, 1), send(2), a, recv(1), b)}},
		"a Send without room": {run(of(0, api.Make, 0), a, send(1), recv(2), b), [][]api.Event{
			run(of(0, api.Make, 0), a, send(1), recv(0), ack(1), b)}},
		"a Close": {run(of(0, api.Make, 1), a, of(1, api.Close, 0), of(2, api.Recv, 0), b), [][]api.Event{
			run(of(0, api.Make, 1), a, of(1, api.Close, 0), b), run(of(0, api.Make, 1), of(1, api.Close, 0), a, of(2, api.Recv, 0), b),
			run(of(0, api.Make, 1), send(0), a, of(1, api.Close, 0), recv(2), b)}},
		"an Add that lowers": {run(of(0, api.Add, raise), a, of(1, api.Add, lower), of(2, api.Wait, 0), b), [][]api.Event{
			run(of(0, api.Add, raise), a, of(0, api.Add, lower), of(2, api.Wait, 0), b), run(a, of(1, api.Add, keep), of(2, api.Wait, 0), b),
			run(a, of(1, api.Add, raise), of(0, api.Add, lower), of(2, api.Wait, 0), b), run(of(0, api.Add, raise), a, of(1, api.Add, lower), ev(2, api.Wait, 6, 0), b),
			run(of(0, api.Add, raise), a, of(1, api.Add, lower), of(2, api.Add, raise), b)}},
		"an Add of another round": {run(of(0, api.Add, raise), a, of(1, api.Add, lower), of(0, api.Wait, 0), of(0, api.Add, raise), of(0, api.Add, lower), of(2, api.Wait, 0), b), nil},
		"a Once": {run(a, of(1, api.Once, 1), of(2, api.Once, 0), b), [][]api.Event{
			run(of(0, api.Once, 1), a, of(1, api.Once, 0), of(2, api.Once, 0), b), run(of(1, api.Once, 1), a, of(2, api.Once, 0), b),
			run(a, of(1, api.Once, 1), ev(2, api.Once, 6, 1), b)}},
		"a Store and a Load": {run(a, of(1, api.Store, 0), of(2, api.Load, 0), b), [][]api.Event{
			run(a, of(1, api.Load, 0), of(2, api.Load, 0), b), run(a, of(1, api.Store, 0), of(2, api.Store, 0), b), run(of(1, api.Store, 0), a, of(2, api.Load, 0), b),
			run(a, of(1, api.Store, 0), b, of(2, api.Load, 0)), run(a, of(1, api.Store, 0), ev(2, api.Load, 6, 0), b), run(a, of(2, api.Load, 0), of(1, api.Store, 0), b)}},
		"a Store and a Swap":                 {run(a, of(1, api.Store, 0), of(2, api.Swap, 0), b), [][]api.Event{run(a, of(1, api.Load, 0), of(2, api.Swap, 0), b)}},
		"a Swap and a Load":                  {run(a, of(1, api.Swap, 0), of(2, api.Load, 0), b), [][]api.Event{run(a, of(1, api.Swap, 0), of(2, api.Store, 0), b)}},
		"a Swap and a Swap":                  {run(a, of(1, api.Swap, 0), of(2, api.Swap, 0), b), [][]api.Event{run(a, of(1, api.Swap, 0), ev(2, api.Swap, 6, 0), b)}},
		"a Store, another one, and a Load":   {run(a, of(1, api.Store, 0), of(0, api.Store, 0), of(2, api.Load, 0), b), nil},
		"over a third one":                   {run(a, of(1, api.Store, 0), of(0, api.Load, 0), ev(0, api.Acquire, 6, 0), ev(0, api.Release, 6, 0), ev(2, api.RAcquire, 6, 0), b), [][]api.Event{run(a, of(1, api.Store, 0), ev(0, api.Acquire, 6, 0), ev(0, api.Release, 6, 0), of(0, api.Load, 0), ev(2, api.RAcquire, 6, 0), b)}},
		"sorts of one number are not one":    {nil, [][]api.Event{run(a, of(1, api.Store, 0), acquire(2), b), run(acquire(1), a, release(1), of(2, api.Load, 0), b), run(a, of(1, api.Once, 1), of(2, api.Load, 0), b)}},
		"a Make, a Mark, an Alloc are none":  {nil, [][]api.Event{run(a, of(1, api.Make, 1), send(2), b), run(a, of(1, api.Mark, 0), of(2, api.Mark, 0), b), run(a, ev(1, api.Alloc, 50, 1), ev(2, api.Free, 50, 1), b)}},
		"a Wait leaves nothing":              {nil, [][]api.Event{run(a, of(1, api.Wait, 0), of(2, api.Wait, 0), b)}},
		"an Acquire, an RAcquire, no giving": {nil, [][]api.Event{run(a, racquire(1), racquire(2), b), run(a, acquire(1), ev(1, api.Acquire, 6, 0), release(1), b, acquire(2))}},
	} {
		t.Run(name, func(t *testing.T) {
			if x.calm != nil {
				found(t, slices.Concat(run(fork1, fork2), x.calm))
			}
			for _, racy := range x.races {
				racy = slices.Concat(run(fork1, fork2), racy)
				first := slices.IndexFunc(racy, isAccess)
				then := first + 1 + slices.IndexFunc(racy[first+1:], isAccess)
				found(t, racy, at(first, then))
			}
		})
	}
}
