package tmframe

import (
	"perigee/api"
	"perigee/packet"
)

// leastIdle is the number of bytes of the shortest idle packet.
const leastIdle = 7

// Filler fills data fields of frames with packets.
type Filler struct {
	// stream contains the idle rest, which comes first, and the waiting bytes.
	stream
	// own is the filler itself, so that a copy of it is not taken for an object.
	own  *Filler
	size int
	// rest is the number of bytes of the idle rest.
	rest int
}

// New returns a filler of fields of a size, without packets.
func New(size int) (*Filler, api.Errno) {
	if !isSize(size) {
		return nil, api.ErrArg
	}
	f := &Filler{size: size}
	f.own = f
	return f, api.OK
}

// Add adds a packet.
func (f *Filler) Add(packet string) api.Errno {
	if !f.made() {
		return api.ErrNil
	}
	if !isBusy(packet) {
		return api.ErrForm
	}
	if f.Waiting()+len(packet) > api.MaxBacklog {
		return api.ErrFull
	}
	f.add(packet)
	return api.OK
}

// Waiting returns the number of bytes of packets that wait.
func (f *Filler) Waiting() int {
	if !f.made() {
		return 0
	}
	return len(f.bytes) - f.rest
}

// Next returns the next field, and where the first packet begins in it.
func (f *Filler) Next() (data string, first int, ok bool) {
	if f.Waiting() == 0 {
		return "", 0, false
	}
	missing := f.size - len(f.bytes)
	if missing > 0 {
		// A field is shorter than the longest idle packet.
		idle, _ := packet.Idle(max(missing, leastIdle))
		f.add(idle)
	}
	data, first = f.cut(f.size)
	f.rest = 0
	if missing > 0 {
		f.rest = len(f.bytes)
	}
	return data, first, true
}

// Clear drops everything.
func (f *Filler) Clear() {
	if f.made() {
		f.stream, f.rest = stream{}, 0
	}
}

// made tells whether a filler was returned by New.
func (f *Filler) made() bool { return f != nil && f.own == f }

// isBusy tells whether a string is the encoding of a packet that is not idle.
func isBusy(b string) bool {
	p, e := packet.Get(b)
	return e == api.OK && p.APID != api.MaxAPID
}
