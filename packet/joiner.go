package packet

import "perigee/api"

// Joiner joins packets to messages.
type Joiner struct {
	// own is the joiner itself, so that a copy of it is not taken for an object.
	own *Joiner
	// seen contains what is known of the APIDs of which a packet was seen.
	seen map[int]known
}

// known is what a joiner knows of an APID.
type known struct {
	// expected is the count of the next packet.
	expected int
	// message is the open message; it is empty if none is open, since each packet has data.
	message []byte
}

// New returns a joiner that has seen no packet.
func New() *Joiner {
	j := &Joiner{seen: map[int]known{}}
	j.own = j
	return j
}

// Feed takes a packet.
func (j *Joiner) Feed(p api.Packet) (api.Piece, api.Errno) {
	if !j.made() {
		return api.Piece{}, api.ErrNil
	}
	if !Valid(p) {
		return api.Piece{}, api.ErrArg
	}
	if p.APID == idle {
		return api.Piece{}, api.OK
	}
	var piece api.Piece
	k, seen := j.seen[p.APID]
	if seen {
		piece.Missed = (p.Count - k.expected + counts) % counts
	}
	k.expected = nextCount(p.Count)
	k.add(p, &piece)
	j.seen[p.APID] = k
	return piece, api.OK
}

// Open returns the number of messages that have begun.
func (j *Joiner) Open() int {
	if !j.made() {
		return 0
	}
	n := 0
	for _, k := range j.seen {
		if k.open() {
			n++
		}
	}
	return n
}

// made tells whether a joiner was returned by New.
func (j *Joiner) made() bool { return j != nil && j.own == j }

// open tells whether a message is open.
func (k *known) open() bool { return len(k.message) > 0 }

// add adds a packet to the open message, or begins one with it, and completes the piece whose Missed is known already.
func (k *known) add(p api.Packet, piece *api.Piece) {
	first, last := meaning(p.Flags)
	if k.open() && (first || piece.Missed != 0) {
		k.giveUp(piece)
	}
	if !first && !k.open() {
		return
	}
	k.message = append(k.message, p.Data...)
	if len(k.message) > api.MaxMessage {
		k.giveUp(piece)
	} else if last {
		piece.Whole, piece.Message = true, string(k.message)
		k.message = nil
	}
}

// giveUp gives up the open message.
func (k *known) giveUp(piece *api.Piece) {
	piece.Broken = true
	k.message = nil
}
