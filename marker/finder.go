package marker

import (
	"math/bits"
	"slices"

	"perigee/api"
)

// mostWrong is the greatest number of wrong bits at a place with a marker.
const mostWrong = 2

// Finder finds blocks behind markers in a stream of soft values.
type Finder struct {
	statistics
	// own is the finder itself, so that a copy of it is not taken for an object.
	own    *Finder
	length int
	// kept contains the values taken from the place on that is examined next, or whose block is not complete yet.
	kept []int
	// hand hands out a block; it is there while values are taken.
	hand func(api.Block)
}

// New makes a finder of blocks of so many symbols.
func New(length int) (*Finder, api.Errno) {
	if length < 1 || length > api.MaxSymbols {
		return nil, api.ErrArg
	}
	f := &Finder{length: length}
	f.own = f
	return f, api.OK
}

// Feed takes the next values of the stream and returns the blocks that are complete.
func (f *Finder) Feed(soft []int) ([]api.Block, api.Errno) {
	if !f.made() {
		return nil, api.ErrNil
	}
	if !areSoft(soft) {
		return nil, api.ErrArg
	}
	var blocks []api.Block
	f.hand = func(b api.Block) { blocks = append(blocks, b) }
	for _, value := range soft {
		f.take(value)
	}
	// The blocks belong to the caller now.
	f.hand = nil
	return blocks, api.OK
}

// Locked reports whether the place of the next marker is known.
func (f *Finder) Locked() bool { return f.made() && f.locked }

// At returns how many values were taken.
func (f *Finder) At() int64 {
	if !f.made() {
		return 0
	}
	return f.taken
}

// made tells whether a finder was returned by New.
func (f *Finder) made() bool { return f != nil && f.own == f }

// take takes a value. A place is examined when its last value has come, and its block handed out when that is complete.
func (f *Finder) take(value int) {
	f.kept = append(f.kept, value)
	f.count()
	switch len(f.kept) {
	case width:
		f.note(wrongBits(f.kept) <= mostWrong)
		if !f.locked {
			f.drop(1)
		}
	case width + f.length:
		f.hand(api.Block{
			At:    f.taken - int64(len(f.kept)),
			Wrong: wrongBits(f.kept),
			Soft:  slices.Clone(f.kept[width:]),
		})
		f.drop(len(f.kept))
	}
}

// drop forgets the first n of the values that are kept.
func (f *Finder) drop(n int) {
	left := copy(f.kept, f.kept[n:])
	f.kept = f.kept[:left]
}

// wrongBits returns the number of wrong bits at the place of the first value.
func wrongBits(values []int) int {
	var hard uint32
	for _, value := range values[:width] {
		hard <<= 1
		if value >= 0 {
			hard |= 1
		}
	}
	return bits.OnesCount32(hard ^ pattern)
}

// areSoft tells whether all numbers of a list are soft values.
func areSoft(list []int) bool {
	for _, value := range list {
		if value < api.MinSoft || value > api.MaxSoft {
			return false
		}
	}
	return true
}
