package file

import "hindsight/api"

// reason is what the reading panics with where it gives up: why.
type reason api.Errno

// caught makes the error of a call out of the reason for which the work was given up. What panics for any
// other cause is a fault of the program, not of its input, and goes on.
func caught[T any](work func() T) (answer T, fault api.Errno) {
	defer func() {
		switch why := recover().(type) {
		case nil:
		case reason:
			fault = api.Errno(why)
		default:
			panic(why)
		}
	}()
	return work(), api.OK
}

// giveUpOn ends the reading with a fault, if it is one.
func giveUpOn(fault api.Errno) {
	if fault != api.OK {
		panic(reason(fault))
	}
}

// giveUpIf ends the reading with a fault where something is so that may not be.
func giveUpIf(wrong bool, fault api.Errno) {
	if wrong {
		giveUpOn(fault)
	}
}

// sure is what a call answered; where it answered a fault beside it, the reading ends.
func sure[T any](answer T, fault api.Errno) T {
	giveUpOn(fault)
	return answer
}
