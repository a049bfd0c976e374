package check

import "hindsight/api"

// lock is one that is held: by one goroutine to write, or so many times to read, by one or more of them.
type lock struct {
	toWrite bool
	times   int
}

func (c *Checker) mayAcquire(e api.Event) int {
	if c.locks[e.Obj].times > 0 {
		return lockHeld
	}
	return none
}

func (c *Checker) acquire(e api.Event) {
	c.locks[e.Obj] = lock{toWrite: true, times: 1}
	c.goroutines[e.G].held.put(e.Obj, 1)
}

func (c *Checker) mayRelease(e api.Event) int {
	if !c.locks[e.Obj].toWrite || !c.goroutines[e.G].held.has(e.Obj) {
		return lockNotHeld
	}
	return none
}

func (c *Checker) release(e api.Event) {
	delete(c.locks, e.Obj)
	c.goroutines[e.G].held.remove(e.Obj)
}

func (c *Checker) mayAcquireToRead(e api.Event) int {
	if c.locks[e.Obj].toWrite {
		return lockHeldToWrite
	}
	return none
}

func (c *Checker) acquireToRead(e api.Event) {
	held := &c.goroutines[e.G].held
	c.locks[e.Obj] = lock{times: c.locks[e.Obj].times + 1}
	held.put(e.Obj, held.get(e.Obj)+1)
}

func (c *Checker) mayReleaseToRead(e api.Event) int {
	if c.locks[e.Obj].toWrite || !c.goroutines[e.G].held.has(e.Obj) {
		return lockNotHeldToRead
	}
	return none
}

func (c *Checker) releaseToRead(e api.Event) {
	held := &c.goroutines[e.G].held
	c.locks[e.Obj] = lock{times: c.locks[e.Obj].times - 1}
	if c.locks[e.Obj].times == 0 {
		delete(c.locks, e.Obj)
	}
	held.put(e.Obj, held.get(e.Obj)-1)
	if held.get(e.Obj) == 0 {
		held.remove(e.Obj)
	}
}
