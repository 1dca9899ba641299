package channels

import (
	"iter"
	"strings"

	"perigee/api"
	"perigee/packet"
)

// inlet is a channel of a demux.
type inlet struct {
	// frame is the last frame, empty if there was none, and count follows the counts of the frames.
	frame string
	count counter
	// part is the bytes of a packet whose end has not arrived, empty if there is none.
	part string
}

// take takes the data of a frame, with what is known of its arrival.
func (n *inlet) take(f api.TmFrame, a *api.Arrival) {
	if a.Lost != 0 {
		n.giveUp(a)
	}
	switch f.First {
	case api.FpIdle:
		// An idle frame may come between those of a packet.
	case api.FpNone:
		n.goOn(f.Data, true, a)
	default:
		n.goOn(f.Data[:f.First], false, a)
		n.begin(f.Data[f.First:], a)
	}
}

// goOn appends bytes to the part, if there is one; open tells whether the packet may go on behind them.
func (n *inlet) goOn(more string, open bool, a *api.Arrival) {
	if n.part == "" {
		return
	}
	n.part += more
	p, size, e := packet.Take(n.part)
	switch {
	case e == api.OK && size == len(n.part):
		arrive(p, n.part, a)
		n.part = ""
	case e != api.ErrNone || !open:
		n.giveUp(a)
	}
}

// begin takes the packets that begin in a data field, from the first one on; what is left becomes the part.
func (n *inlet) begin(data string, a *api.Arrival) {
	n.part = data
	for p, b := range packets(data) {
		arrive(p, b, a)
		n.part = n.part[len(b):]
	}
	if _, _, e := packet.Take(n.part); e != api.ErrNone {
		n.giveUp(a)
	}
}

// giveUp gives the part up, if there is one.
func (n *inlet) giveUp(a *api.Arrival) {
	if n.part != "" {
		n.part = ""
		a.Broken++
	}
}

// packets yields the packets with which a string begins, one after the other, and their encodings.
func packets(b string) iter.Seq2[api.Packet, string] {
	return func(yield func(api.Packet, string) bool) {
		left := b
		for {
			p, n, e := packet.Take(left)
			if e != api.OK || !yield(p, left[:n]) {
				return
			}
			left = left[n:]
		}
	}
}

// arrive puts the encoding of a packet among those that have arrived, unless the packet is idle.
func arrive(p api.Packet, encoding string, a *api.Arrival) {
	if p.APID != api.MaxAPID {
		a.Packets = append(a.Packets, strings.Clone(encoding))
	}
}
