package channels

import (
	"strings"

	"perigee/api"
	"perigee/tmframe"
)

// counter follows the counts of frames.
type counter struct {
	// begun tells whether there was a frame; last is the count of the last one.
	begun bool
	last  int
}

// take takes the count of a frame, and returns how many frames are missing before it.
func (c *counter) take(count int) int {
	before := *c
	*c = counter{begun: true, last: count}
	if !before.begun {
		return 0
	}
	// The difference of two counts, minus 1, is -counts at least.
	return (count - before.last - 1 + counts) % counts
}

// Demux gets the packets out of the frames of a craft.
type Demux struct {
	// own is the demux itself, so that a copy of it is not taken for an object.
	own         *Demux
	craft, size int
	master      counter
	inlets      [api.Channels]inlet
}

// NewDemux returns a demux that has seen no frame.
func NewDemux(craft, size int) (*Demux, api.Errno) {
	if !isCraft(craft) || !isSize(size) {
		return nil, api.ErrArg
	}
	d := &Demux{craft: craft, size: size}
	d.own = d
	return d, api.OK
}

// Feed takes a frame.
func (d *Demux) Feed(frame string) (api.Arrival, api.Errno) {
	if !d.made() {
		return api.Arrival{}, api.ErrNil
	}
	f, e := tmframe.Get(frame)
	if e != api.OK {
		return api.Arrival{}, e
	}
	if f.Craft != d.craft || len(f.Data) != d.size {
		return api.Arrival{}, api.ErrArg
	}
	in := &d.inlets[f.Channel]
	a := api.Arrival{Channel: f.Channel, Word: f.Word, Doubled: in.frame == frame}
	if !a.Doubled {
		a.Missed = d.master.take(f.Master)
		a.Lost = in.count.take(f.Count)
		in.frame = strings.Clone(frame)
		in.take(f, &a)
	}
	return a, api.OK
}

// made tells whether a demux was returned by NewDemux.
func (d *Demux) made() bool { return d != nil && d.own == d }
