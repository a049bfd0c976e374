package recorder

import (
	"slices"

	"hindsight/api"
)

// Tape is bytes that are only put behind one another.
type Tape struct {
	bytes  []byte
	most   int
	synced int // so many bytes last
	alive  int // so many bytes are not dead; the dead ones lie behind these
	fuse   fuse
}

// fuse counts the acts that a crash still sees.
type fuse struct {
	set  bool
	left int
}

func (f *fuse) blown() bool { return f.set && f.left == 0 }

// burn counts an act that was made.
func (f *fuse) burn() {
	if f.left > 0 {
		f.left--
	}
}

// NewTape is a tape without bytes that takes so many at most.
func NewTape(most int) (*Tape, api.Errno) {
	return LoadTape(nil, most)
}

// LoadTape is a tape with these bytes, all of them synced.
func LoadTape(b []byte, most int) (*Tape, api.Errno) {
	if most < 0 || most > api.MaxTape {
		return nil, api.ErrArg
	}
	if len(b) > most {
		return nil, api.ErrTape
	}
	t := &Tape{bytes: slices.Clone(b), most: most}
	t.settle()
	return t, api.OK
}

// settle makes all bytes last, and takes the fuse out.
func (t *Tape) settle() {
	t.synced, t.alive = len(t.bytes), len(t.bytes)
	t.fuse = fuse{}
}

// Append puts bytes behind the others.
func (t *Tape) Append(b []byte) api.Errno {
	if t == nil {
		return api.ErrNil
	}
	if len(b) > t.most-len(t.bytes) {
		return api.ErrTape
	}
	t.bytes = append(t.bytes, b...)
	t.act(func() { t.alive = len(t.bytes) })
	return api.OK
}

// Sync makes all that was put last.
func (t *Tape) Sync() api.Errno {
	if t == nil {
		return api.ErrNil
	}
	t.act(func() { t.synced = len(t.bytes) })
	return api.OK
}

// act does what a crash will see of an act, and burns the fuse behind it; with a blown one nothing is done.
func (t *Tape) act(do func()) {
	if t.fuse.blown() {
		return
	}
	do()
	t.fuse.burn()
}

// Bytes is all that is read.
func (t *Tape) Bytes() []byte {
	if t == nil {
		return nil
	}
	return slices.Clone(t.bytes)
}

// Durable is what lasts for sure.
func (t *Tape) Durable() []byte {
	if t == nil {
		return nil
	}
	return slices.Clone(t.bytes[:t.synced])
}

// Fuse lets so many more Appends and Syncs count for the next crash.
func (t *Tape) Fuse(n int) api.Errno {
	if t == nil {
		return api.ErrNil
	}
	if n < 0 {
		return api.ErrArg
	}
	// A blown one stays: the crash has come already, and nobody was told.
	if !t.fuse.blown() {
		t.fuse = fuse{set: true, left: n}
	}
	return api.OK
}

// Crash keeps so many bytes of what is not synced, and turns a bit of these (-1: none).
func (t *Tape) Crash(keep, bit int) api.Errno {
	if t == nil {
		return api.ErrNil
	}
	if keep < 0 || keep > t.alive-t.synced {
		return api.ErrArg
	}
	if bit < -1 || bit >= 8*keep {
		return api.ErrArg
	}
	t.bytes = t.bytes[:t.synced+keep]
	if bit >= 0 {
		t.bytes[t.synced+bit/8] ^= 1 << (bit % 8)
	}
	t.settle()
	return api.OK
}
