package samples

import (
	"slices"

	"hindsight/api"
	"hindsight/crc"
	"hindsight/frame"
)

// Placed gives each frame its place as its Ord, and the last one, if it is a foot, the body of one that
// tells what is so.
func Placed(fs []api.Frame) []api.Frame {
	fs = slices.Clone(fs)
	var all []byte
	for k := range fs {
		fs[k].Ord = k
		if k == len(fs)-1 && fs[k].Kind == api.FrameFoot {
			fs[k].Body, _ = frame.EncodeFoot(api.Foot{Frames: k, Sum: crc.Sum(all)})
		}
		all = append(all, fs[k].Body...)
	}
	return fs
}

// Joined are the bytes of frames that may be, as they are; also more of them than a file may have.
func Joined(fs []api.Frame) []byte {
	var all []byte
	for _, f := range fs {
		b, fault := frame.Encode(f)
		if fault != api.OK {
			panic("a frame that may not be")
		}
		all = append(all, b...)
	}
	return all
}

// Sealed are the bytes of frames, each in its place, with a foot that tells what is so.
func Sealed(fs []api.Frame) []byte { return Joined(Placed(fs)) }
