package tcframe

import (
	"strings"

	"perigee/api"
)

// Assembler joins segments to packets.
type Assembler struct {
	// own is the assembler itself, so that a copy of it is not taken for an object.
	own *Assembler
	// message is the open message; it is empty if none is open, since each part has bytes.
	message []byte
}

// action is what an assembler does with the part of a segment with certain flags.
type action func(*Assembler, string) api.Piece

// New returns an assembler that has seen no segment.
func New() *Assembler {
	a := new(Assembler)
	a.own = a
	return a
}

// Feed takes a segment.
func (a *Assembler) Feed(segment string) (api.Piece, api.Errno) {
	if !a.made() {
		return api.Piece{}, api.ErrNil
	}
	flags, part, ok := taken(segment)
	if !ok {
		return api.Piece{}, api.ErrForm
	}
	actions := [...]action{
		api.SfMiddle: (*Assembler).middle,
		api.SfFirst:  (*Assembler).first,
		api.SfLast:   (*Assembler).last,
		api.SfOnly:   (*Assembler).only,
	}
	return actions[flags](a, part), api.OK
}

// made tells whether an assembler was returned by New.
func (a *Assembler) made() bool { return a != nil && a.own == a }

// open tells whether a message is open.
func (a *Assembler) open() bool { return len(a.message) > 0 }

// only takes a part that is a message.
func (a *Assembler) only(part string) api.Piece {
	piece := a.giveUp()
	piece.Whole, piece.Message = true, strings.Clone(part)
	return piece
}

// first takes a part that begins a message.
func (a *Assembler) first(part string) api.Piece {
	piece := a.giveUp()
	a.message = []byte(part)
	return piece
}

// middle takes a part that goes on with the open message.
func (a *Assembler) middle(part string) api.Piece {
	if !a.open() {
		return api.Piece{}
	}
	a.message = append(a.message, part...)
	if len(a.message) > maxPacket {
		return a.giveUp()
	}
	return api.Piece{}
}

// last takes a part that ends the open message.
func (a *Assembler) last(part string) api.Piece {
	piece := a.middle(part)
	if a.open() {
		piece.Whole, piece.Message = true, string(a.message)
		a.message = nil
	}
	return piece
}

// giveUp gives up the open message, if there is one.
func (a *Assembler) giveUp() api.Piece {
	piece := api.Piece{Broken: a.open()}
	a.message = nil
	return piece
}
