package recorder

import "hindsight/api"

// reading is what is known of the bytes that were read, with the events themselves.
type reading struct {
	known
	told []api.Event
}

func (r *reading) keep(events []api.Event) {
	r.told = append(r.told, events...)
}

// Recover answers the events that a tape's bytes hold without a gap, and how many bytes they take.
func Recover(b []byte) ([]api.Event, int, api.Errno) {
	if len(b) > api.MaxTape {
		return nil, 0, api.ErrLarge
	}
	r := reading{known: ahead()}
	taken := r.follow(b, r.keep)
	return r.told, taken, api.OK
}
