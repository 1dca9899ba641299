package packet_test

import (
	"fmt"
	"math"
	"math/rand"
	"slices"
	"strings"
	"testing"

	"perigee/api"
	"perigee/packet"
)

// This file: the definitions of the chapter, with headers as texts of binary digits, and the packets and strings that the tests use.

// bytesOf returns the bytes whose bits are the digits of a text.
func bytesOf(digits string) string {
	b := make([]byte, len(digits)/8)
	for i := range b {
		fmt.Sscanf(digits[8*i:8*i+8], "%b", &b[i])
	}
	return string(b)
}

// digitsOf returns the bits of bytes as a text of digits.
func digitsOf(b string) string {
	var text strings.Builder
	for i := range len(b) {
		fmt.Fprintf(&text, "%08b", b[i])
	}
	return text.String()
}

// wantValid tells whether a packet is valid.
func wantValid(p api.Packet) bool {
	return 0 <= p.APID && p.APID <= 2047 && slices.Contains([]int{0, 1, 2, 3}, p.Flags) && 0 <= p.Count && p.Count <= 16383 && 1 <= len(p.Data) && len(p.Data) <= 1024
}

// wantPut returns the encoding of a valid packet.
func wantPut(p api.Packet) string {
	command := "0"
	if p.Command {
		command = "1"
	}
	return bytesOf("000"+command+"0"+fmt.Sprintf("%011b%02b%014b%016b", p.APID, p.Flags, p.Count, len(p.Data)-1)) + p.Data
}

// headPattern contains the bits of all headers of valid packets: a point stands for any bit.
const headPattern = "000.0..........................." + "000000.........."

// wantTake returns the packet whose encoding is at the beginning of a string, and its length.
func wantTake(b string) (p api.Packet, n int, e api.Errno) {
	digits := digitsOf(b[:min(6, len(b))])
	for i := range len(digits) {
		if headPattern[i] != '.' && headPattern[i] != digits[i] {
			return p, 0, api.ErrForm
		}
	}
	if len(b) < 6 {
		return p, 0, api.ErrNone
	}
	var last int
	fmt.Sscanf(digits[5:16]+" "+digits[16:18]+" "+digits[18:32]+" "+digits[32:], "%b %b %b %b", &p.APID, &p.Flags, &p.Count, &last)
	if n = 6 + last + 1; len(b) < n {
		return api.Packet{}, 0, api.ErrNone
	}
	p.Command, p.Data = digits[3] == '1', b[6:n]
	return p, n, api.OK
}

// wantGet returns the packet whose encoding is a string.
func wantGet(b string) (api.Packet, api.Errno) {
	if p, n, e := wantTake(b); e == api.OK && n == len(b) {
		return p, api.OK
	}
	return api.Packet{}, api.ErrForm
}

// wantSplit returns the packets of a message.
func wantSplit(command bool, apid, count int, message string, most int) ([]api.Packet, api.Errno) {
	if apid < 0 || apid > 2046 || count < 0 || count > 16383 || most < 1 || most > 1024 || message == "" {
		return nil, api.ErrArg
	}
	if len(message) > 16384 {
		return nil, api.ErrLong
	}
	var l []api.Packet
	for rest := message; rest != ""; {
		n := min(most, len(rest))
		l = append(l, api.Packet{Command: command, APID: apid, Flags: 0, Count: (count + len(l)) % 16384, Data: rest[:n]})
		rest = rest[n:]
	}
	// The flags are numbers whose bit 0 says that a packet is the first one, and bit 1 that it is the last one.
	l[0].Flags |= 1
	l[len(l)-1].Flags |= 2
	return l, api.OK
}

// model is a joiner as the chapter describes it. The state of an APID is there if one of its packets was seen.
type model map[int]*modelState

type modelState struct {
	expected int
	open     bool
	message  string
}

// feed takes a packet.
func (m model) feed(p api.Packet) (piece api.Piece, e api.Errno) {
	if !wantValid(p) {
		return piece, api.ErrArg
	}
	if p.APID == 2047 {
		return piece, api.OK
	}
	s := m[p.APID]
	if s == nil {
		s = &modelState{expected: p.Count}
		m[p.APID] = s
	}
	for count := s.expected; count != p.Count; count = (count + 1) % 16384 {
		piece.Missed++
	}
	s.expected = (p.Count + 1) % 16384
	if s.open && (piece.Missed != 0 || p.Flags == 1 || p.Flags == 3) {
		piece.Broken, s.open, s.message = true, false, ""
	}
	switch {
	case p.Flags == 3:
		piece.Whole, piece.Message = true, p.Data
	case p.Flags == 1:
		s.open, s.message = true, p.Data
	case s.open:
		s.message += p.Data
		if len(s.message) > 16384 {
			piece.Broken, s.open, s.message = true, false, ""
		} else if p.Flags == 2 {
			piece.Whole, piece.Message = true, s.message
			s.open, s.message = false, ""
		}
	}
	return piece, api.OK
}

// opened returns how many APIDs have an open message.
func (m model) opened() int {
	n := 0
	for _, s := range m {
		if s.open {
			n++
		}
	}
	return n
}

// noAPIDs, noFlags, noCounts and noSizes return numbers that a packet cannot have.
func noAPIDs() []int {
	return []int{-1, -2, -2048, 2048, 2049, 4095, 4096, 1 << 16, 1 << 32, 1<<32 + 5, math.MinInt, math.MinInt + 5, math.MaxInt}
}

func noFlags() []int {
	return []int{-1, -2, -4, 4, 5, 8, 256, 1 << 32, 1<<32 + 1, math.MinInt, math.MinInt + 3, math.MaxInt}
}

func noCounts() []int {
	return []int{-1, -2, -16384, 16384, 16385, 32768, 1 << 16, 1 << 32, 1<<32 + 7, math.MinInt, math.MinInt + 7, math.MaxInt}
}

func noSizes() []int { return []int{0, 1025, 1026, 2048, 2049, 65536, 65537, 1 << 20} }

// anyBytes returns n bytes.
func anyBytes(r *rand.Rand, n int) string {
	b := make([]byte, n)
	r.Read(b)
	return string(b)
}

// anySize returns a number of bytes of data, often one at a limit.
func anySize(r *rand.Rand) int {
	sizes := []int{1, 2, 255, 256, 257, 1023, 1024}
	if i := r.Intn(20); i < len(sizes) {
		return sizes[i]
	}
	return 1 + r.Intn(40)
}

// anyPacket returns a valid packet, sometimes an idle one.
func anyPacket(r *rand.Rand) api.Packet {
	apid, count := r.Intn(2048), r.Intn(16384)
	if r.Intn(8) == 0 {
		apid = 2047
	}
	if r.Intn(8) == 0 {
		count = []int{0, 255, 256, 16383}[r.Intn(4)]
	}
	return api.Packet{Command: r.Intn(2) == 0, APID: apid, Flags: r.Intn(4), Count: count, Data: anyBytes(r, anySize(r))}
}

// spoilt returns a packet with one number that it cannot have.
func spoilt(r *rand.Rand, p api.Packet) api.Packet {
	pick := func(l []int) int { return l[r.Intn(len(l))] }
	switch r.Intn(4) {
	case 0:
		p.APID = pick(noAPIDs())
	case 1:
		p.Flags = pick(noFlags())
	case 2:
		p.Count = pick(noCounts())
	default:
		p.Data = strings.Repeat("a", pick(noSizes()))
	}
	return p
}

// put returns the encoding of a packet.
func put(t *testing.T, p api.Packet) string {
	t.Helper()
	s, e := packet.Put(p)
	if e != api.OK {
		t.Fatalf("Put(%.99q): %d", fmt.Sprint(p), e)
	}
	return s
}

// split returns the packets of a message.
func split(t *testing.T, apid, count int, message string, most int) []api.Packet {
	t.Helper()
	l, e := packet.Split(false, apid, count, message, most)
	if e != api.OK {
		t.Fatalf("Split of %d bytes, most %d, APID %d, count %d: %d", len(message), most, apid, count, e)
	}
	return l
}

// fed returns the piece that a joiner returns for a packet.
func fed(t *testing.T, j *packet.Joiner, p api.Packet) api.Piece {
	t.Helper()
	piece, e := j.Feed(p)
	if e != api.OK {
		t.Fatalf("Feed(%.99q): %d", fmt.Sprint(p), e)
	}
	return piece
}
