package lockset

import "hindsight/api"

// life is what is kept of a byte since it was last Virgin: then it is the zero life.
type life struct {
	state  uint8
	owner  uint16 // while it is Exclusive: who touched it
	guards *locks
}

// access is one that touches a byte.
type access struct {
	g      uint16
	writes bool
	held   *locks // those that are held for it
}

// Clone is the life of bytes that are touched apart from the others from now on.
func (b life) Clone() life {
	return b
}

// touched is what becomes of a byte by an access.
func (b life) touched(by access) life {
	switch b.state {
	case api.Virgin:
		b.state, b.owner = api.Exclusive, by.g
	case api.Exclusive:
		if b.owner == by.g {
			break
		}
		b.state, b.guards = api.Shared, by.held
		fallthrough
	case api.Shared:
		if by.writes {
			b.state = api.Modified
		}
		fallthrough
	case api.Modified:
		b.guards = common(b.guards, by.held)
	}
	return b
}

// suspect tells whether a byte became one, in this life.
func (b life) suspect() bool {
	return b.state == api.Modified && b.guards == nil
}
