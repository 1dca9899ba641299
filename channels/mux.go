package channels

import (
	"strings"

	"perigee/api"
	"perigee/tmframe"
)

const (
	// idleChannel is the channel of idle frames, and idleByte is what their data consist of.
	idleChannel = 7
	idleByte    = "\x55"
)

// outlet is a channel of a mux.
type outlet struct {
	filler          *tmframe.Filler
	number          int
	priority, share int
	// credit is how many of its share of frames the channel has not had yet.
	credit int
	// count is the number of its frames so far, modulo counts.
	count int
}

// Mux makes the frames of a craft of the packets of its channels.
type Mux struct {
	// own is the mux itself, so that a copy of it is not taken for an object.
	own         *Mux
	craft, size int
	// master is the number of frames so far, modulo counts.
	master  int
	outlets [api.Channels]outlet
}

// NewMux returns a mux without packets.
func NewMux(craft, size int, priority, share [api.Channels]int) (*Mux, api.Errno) {
	if !isCraft(craft) || !isSize(size) {
		return nil, api.ErrArg
	}
	m := &Mux{craft: craft, size: size}
	m.own = m
	for i := range m.outlets {
		if !isPriority(priority[i]) || !isShare(share[i]) {
			return nil, api.ErrArg
		}
		// The size is one that fillers can have.
		filler, _ := tmframe.New(size)
		m.outlets[i] = outlet{filler: filler, number: i, priority: priority[i], share: share[i]}
	}
	return m, api.OK
}

// Add adds a packet to a channel.
func (m *Mux) Add(channel int, packet string) api.Errno {
	if !m.made() {
		return api.ErrNil
	}
	if !isChannel(channel) {
		return api.ErrArg
	}
	return m.outlets[channel].filler.Add(packet)
}

// Waiting returns the number of bytes that wait in a channel.
func (m *Mux) Waiting(channel int) int {
	if !m.made() || !isChannel(channel) {
		return 0
	}
	return m.outlets[channel].filler.Waiting()
}

// Next returns the next frame.
func (m *Mux) Next(word uint32) (string, api.Errno) {
	if !m.made() {
		return "", api.ErrNil
	}
	o := m.choose()
	data, first, ok := o.filler.Next()
	if !ok {
		data, first = strings.Repeat(idleByte, m.size), api.FpIdle
	}
	f := api.TmFrame{Craft: m.craft, Channel: o.number, Master: m.master, Count: o.count, First: first, Data: data, Word: word}
	m.master = (m.master + 1) % counts
	o.count = (o.count + 1) % counts
	return tmframe.Put(f)
}

// Clear drops everything that waits; all counts begin anew.
func (m *Mux) Clear() {
	if !m.made() {
		return
	}
	m.master = 0
	for i := range m.outlets {
		o := &m.outlets[i]
		o.filler.Clear()
		o.credit, o.count = 0, 0
	}
}

// made tells whether a mux was returned by NewMux.
func (m *Mux) made() bool { return m != nil && m.own == m }
