package recorder

import (
	"hindsight/api"
	"hindsight/growing"
)

// known is what is known of a recording so far. (It is no growing.Recording itself: whoever has a recorder
// would have that one's calls and fields, too.)
type known struct {
	soFar growing.Recording
}

// ahead of the first frame nothing is known.
func ahead() known {
	return known{growing.New()}
}

// follow reads frames off the begin of b, as long as one may be next, hands on the events of each, and
// answers how many bytes these frames take.
func (k *known) follow(b []byte, keep func([]api.Event)) int {
	taken, _ := k.soFar.Follow(b, keep)
	return taken
}
