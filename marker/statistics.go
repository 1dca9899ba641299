package marker

// mostMisses is the number of misses in a row at which a finder is not locked any more.
const mostMisses = 3

// statistics tells how far a finder has come in its stream.
type statistics struct {
	// taken is the number of values taken.
	taken  int64
	locked bool
	// misses is the number of places behind the last marker that were examined in vain while the finder was locked.
	misses int
}

// count counts a value that was taken.
func (s *statistics) count() { s.taken++ }

// note notes whether there was a marker at the place that was examined.
func (s *statistics) note(found bool) {
	switch {
	case found:
		s.locked, s.misses = true, 0
	case s.locked:
		s.misses++
		s.locked = s.misses < mostMisses
	}
}
