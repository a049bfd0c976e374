package crc_test

import (
	"math/rand"
	"testing"

	"hindsight/api"
	"hindsight/crc"
)

func expectStream(t *testing.T, s *crc.Stream, sum uint32, length int) {
	t.Helper()
	// Twice: asking changes nothing.
	for range 2 {
		if s.Sum() != sum || s.Len() != length {
			t.Errorf("P2.6: Sum %d, Len %d, want %d, %d", s.Sum(), s.Len(), sum, length)
		}
	}
}

func TestStreamExample(t *testing.T) {
	s := crc.New()
	if s == nil {
		t.Fatal("P0.6: a new stream is nil")
	}
	expectStream(t, s, 0, 0)
	for _, part := range []string{"123", "", "456789"} {
		if e := s.Write([]byte(part)); e != api.OK {
			t.Errorf("P2.6: Write(%q) = %d", part, e)
		}
	}
	expectStream(t, s, check, 9)
	if e := s.Write(nil); e != api.OK {
		t.Errorf("P2.6: Write(nil) = %d", e)
	}
	expectStream(t, s, check, 9)
}

// TestStreams writes to two at once, each of its own bytes, and asks behind every write.
func TestStreams(t *testing.T) {
	r := rand.New(rand.NewSource(12))
	streams := [2]*crc.Stream{crc.New(), crc.New()}
	var all [2][]byte
	for range 300 {
		k := r.Intn(2)
		part := someBytes(r, r.Intn(9))
		all[k] = append(all[k], part...)
		if e := streams[k].Write(part); e != api.OK {
			t.Fatalf("P2.6: Write(%v) = %d", part, e)
		}
		for i, s := range streams {
			expectStream(t, s, sumOf(all[i]), len(all[i]))
		}
	}
}

func TestNilStream(t *testing.T) {
	var s *crc.Stream
	expectStream(t, s, 0, 0)
	for _, b := range [][]byte{nil, {}, []byte("a")} {
		if e := s.Write(b); e != api.ErrNil {
			t.Errorf("P2.6: Write(%v) to a nil stream = %d", b, e)
		}
	}
	expectStream(t, s, 0, 0)
}
