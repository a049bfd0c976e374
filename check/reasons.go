package check

// The reasons why an event can't come, by their numbers; none: it can.
const (
	none = iota
	notBegun
	alreadyJoined
	ackDue
	lockHeld
	lockNotHeld
	lockHeldToWrite
	lockNotHeldToRead
	alreadyBegun
	joinedNotBegun
	joinedTwice
	joinsItself
	joinedWaits
	alreadyMade
	notMade
	channelClosed
	channelFull
	noValue
	notClosed
	valuesLeft
	valueWaits
	noAckDue
	notReceived
	counterOutOfRange
	counterNotZero
	alreadyRan
	notRun
	alreadyAllocated
	notAllocated
)

var words = [...]string{
	none:              "",
	notBegun:          "goroutine not begun",
	alreadyJoined:     "goroutine already joined",
	ackDue:            "acknowledgement due",
	lockHeld:          "lock held",
	lockNotHeld:       "lock not held",
	lockHeldToWrite:   "lock held to write",
	lockNotHeldToRead: "lock not held to read",
	alreadyBegun:      "goroutine already begun",
	joinedNotBegun:    "joined goroutine not begun",
	joinedTwice:       "joined twice",
	joinsItself:       "goroutine joins itself",
	joinedWaits:       "joined goroutine waits",
	alreadyMade:       "channel already made",
	notMade:           "channel not made",
	channelClosed:     "channel closed",
	channelFull:       "channel full",
	noValue:           "no value to receive",
	notClosed:         "channel not closed",
	valuesLeft:        "values left",
	valueWaits:        "value waits",
	noAckDue:          "no acknowledgement due",
	notReceived:       "value not received",
	counterOutOfRange: "counter out of range",
	counterNotZero:    "counter not zero",
	alreadyRan:        "once already ran",
	notRun:            "once not run",
	alreadyAllocated:  "memory already allocated",
	notAllocated:      "memory not allocated",
}

// Why is a reason in words.
func Why(reason int) string {
	if reason < 0 || reason >= len(words) {
		return ""
	}
	return words[reason]
}
