package check

import "hindsight/api"

// rule is what a kind asks for, and what it does. The first answers why the event can't come; the second
// is called only where it can, so it need not ask again.
type rule struct {
	asks func(*Checker, api.Event) int
	does func(*Checker, api.Event)
}

// ruleOf is the rule of a kind that is known.
func ruleOf(kind int) rule {
	rules := [...]rule{
		api.Read:     {always, nothing},
		api.Write:    {always, nothing},
		api.Acquire:  {(*Checker).mayAcquire, (*Checker).acquire},
		api.Release:  {(*Checker).mayRelease, (*Checker).release},
		api.RAcquire: {(*Checker).mayAcquireToRead, (*Checker).acquireToRead},
		api.RRelease: {(*Checker).mayReleaseToRead, (*Checker).releaseToRead},
		api.Fork:     {(*Checker).mayFork, (*Checker).fork},
		api.Join:     {(*Checker).mayJoin, (*Checker).join},
		api.Make:     {(*Checker).mayMake, (*Checker).makeChannel},
		api.Send:     {(*Checker).maySend, (*Checker).send},
		api.Ack:      {(*Checker).mayAck, (*Checker).ack},
		api.Recv:     {(*Checker).mayReceive, (*Checker).receive},
		api.Close:    {(*Checker).mayClose, (*Checker).closeChannel},
		api.Add:      {(*Checker).mayCount, (*Checker).count},
		api.Wait:     {(*Checker).mayWait, nothing},
		api.Once:     {(*Checker).mayRunOnce, (*Checker).runOnce},
		api.Load:     {always, nothing},
		api.Store:    {always, nothing},
		api.Swap:     {always, nothing},
		api.Alloc:    {(*Checker).mayAllocate, (*Checker).allocate},
		api.Free:     {(*Checker).mayFree, (*Checker).free},
		api.Mark:     {always, nothing},
	}
	return rules[kind]
}

func always(*Checker, api.Event) int { return none }

func nothing(*Checker, api.Event) {}
