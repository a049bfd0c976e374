package crc

import "hindsight/api"

// Stream is a sum that grows.
type Stream struct {
	sum    uint32
	length int
}

// New is the sum of nothing.
func New() *Stream { return &Stream{} }

// Write takes more bytes.
func (s *Stream) Write(b []byte) api.Errno {
	if s == nil {
		return api.ErrNil
	}
	s.sum = Update(s.sum, b)
	s.length += len(b)
	return api.OK
}

// Sum is the sum of all that was written.
func (s *Stream) Sum() uint32 {
	if s == nil {
		return 0
	}
	return s.sum
}

// Len tells how many bytes were written.
func (s *Stream) Len() int {
	if s == nil {
		return 0
	}
	return s.length
}
