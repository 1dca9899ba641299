package tmframe

import (
	"iter"
	"slices"

	"perigee/api"
)

// stream is bytes that go into fields, and the places among them at which packets begin, in rising order.
type stream struct {
	bytes  []byte
	begins []int
}

// add adds a packet at the end.
func (s *stream) add(packet string) {
	s.begins = append(s.begins, len(s.bytes))
	s.bytes = append(s.bytes, packet...)
}

// cut removes the first n bytes, and returns them and the first place among them at which a packet begins.
func (s *stream) cut(n int) (field string, first int) {
	first = api.FpNone
	for place := range s.places(0, n) {
		first = place
		break
	}
	s.begins = slices.Collect(s.places(n, len(s.bytes)))
	// Cut to its length, so that nothing written behind the field can get into the bytes that are left.
	cut := s.bytes[:n:n]
	s.bytes = s.bytes[n:]
	return string(cut), first
}

// places yields how far behind a place, and before another one, packets begin.
func (s *stream) places(from, to int) iter.Seq[int] {
	return func(yield func(int) bool) {
		for _, place := range s.begins {
			if place >= from && place < to && !yield(place-from) {
				return
			}
		}
	}
}
