package file

import (
	"errors"
	"testing"

	"hindsight/api"
)

// outcome asks caught to do some work, and catches what it lets through.
func outcome(work func() int) (answer int, fault api.Errno, through any) {
	defer func() { through = recover() }()
	answer, fault = caught(work)
	return answer, fault, nil
}

func TestCaught(t *testing.T) {
	if answer, fault, through := outcome(func() int { return 7 }); answer != 7 || fault != api.OK || through != nil {
		t.Errorf("work that is done: %d, %d, %v", answer, fault, through)
	}
	for _, why := range []api.Errno{api.ErrNil, api.ErrEnd, api.ErrForm2, api.ErrSched} {
		answer, fault, through := outcome(func() int {
			giveUpOn(why)
			return 7
		})
		if answer != 0 || fault != why || through != nil {
			t.Errorf("work that is given up for %d: %d, %d, %v", why, answer, fault, through)
		}
		answer, fault, through = outcome(func() int { return sure(7, why) })
		if answer != 0 || fault != why || through != nil {
			t.Errorf("work that is given up for an answer's fault %d: %d, %d, %v", why, answer, fault, through)
		}
	}
}

// TestNoReason: what panics without a reason of the reading's own goes on as that panic.
func TestNoReason(t *testing.T) {
	mine := errors.New("mine")
	for _, what := range []any{"a word", 5, mine, api.ErrEnd} {
		answer, fault, through := outcome(func() int { panic(what) })
		if answer != 0 || fault != api.OK || through != what {
			t.Errorf("P11.2: the panic %v became %d, %d, %v", what, answer, fault, through)
		}
	}
	var none []int
	if _, fault, through := outcome(func() int { return none[len(none)] }); fault != api.OK || through == nil {
		t.Errorf("P11.2: a fault of the program became %d, %v", fault, through)
	}
}

func TestGoingOn(t *testing.T) {
	answer, fault, through := outcome(func() int {
		giveUpOn(api.OK)
		giveUpIf(false, api.ErrArg)
		giveUpIf(true, api.OK)
		return sure(7, api.OK)
	})
	if answer != 7 || fault != api.OK || through != nil {
		t.Errorf("work with nothing to give up for: %d, %d, %v", answer, fault, through)
	}
}
