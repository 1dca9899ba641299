package tcframe_test

import (
	"fmt"
	"math"
	"math/rand"
	"strings"
	"testing"

	"perigee/api"
	"perigee/tcframe"
)

// This file: the definitions of the chapter, with headers as texts of binary digits, and the frames and segments that the tests use.

// wantSum returns the checksum of a string as two bytes, bit by bit.
func wantSum(b string) string {
	register := uint32(0xffff)
	for i := range len(b) {
		for bit := 7; bit >= 0; bit-- {
			differ := register>>15&1 != uint32(b[i])>>bit&1
			register = register << 1 & 0xffff
			if differ {
				register ^= 0x1021
			}
		}
	}
	return string([]byte{byte(register >> 8), byte(register)})
}

// closed returns a string with its checksum behind it.
func closed(b string) string { return b + wantSum(b) }

// bytesOf returns the bytes whose bits are the digits of a text.
func bytesOf(digits string) string {
	b := make([]byte, len(digits)/8)
	for i := range b {
		fmt.Sscanf(digits[8*i:8*i+8], "%b", &b[i])
	}
	return string(b)
}

// digitsOf returns the bits of bytes as a text of digits.
func digitsOf(b string) string {
	var text strings.Builder
	for i := range len(b) {
		fmt.Fprintf(&text, "%08b", b[i])
	}
	return text.String()
}

// wantValid tells whether a frame is valid.
func wantValid(f api.TcFrame) bool {
	within := func(n, least, most int) bool { return least <= n && n <= most }
	if f.Control && !f.Bypass {
		return false
	}
	return within(f.Craft, 0, 255) && within(f.Seq, 0, 255) && within(f.Channel, 0, 7) && within(len(f.Data), 1, 200)
}

// headOf returns the header of a frame whose encoding has n bytes.
func headOf(f api.TcFrame, n int) string {
	flag := map[bool]int{true: 1}
	return bytesOf(fmt.Sprintf("00%b%b00%010b%06b%010b%08b", flag[f.Bypass], flag[f.Control], f.Craft, f.Channel, n-1, f.Seq))
}

// wantPut returns the encoding of a valid frame.
func wantPut(f api.TcFrame) string { return closed(headOf(f, len(f.Data)+7) + f.Data) }

// wantGet returns the frame whose encoding is a string.
func wantGet(b string) (f api.TcFrame, e api.Errno) {
	if len(b) < 8 || len(b) > 207 {
		return f, api.ErrForm
	}
	end := len(b) - 2
	if closed(b[:end]) != b {
		return f, api.ErrTcSum
	}
	digits := digitsOf(b[:5])
	var size int
	fmt.Sscanf(digits[6:16]+" "+digits[16:22]+" "+digits[22:32]+" "+digits[32:], "%b %b %b %b", &f.Craft, &f.Channel, &size, &f.Seq)
	f.Bypass, f.Control, f.Data = digits[2] == '1', digits[3] == '1', b[5:end]
	if digits[:2] != "00" || digits[4:6] != "00" || size+1 != len(b) || !wantValid(f) {
		return api.TcFrame{}, api.ErrForm
	}
	return f, api.OK
}

// wantFront returns the frame at the beginning of a string, and its length.
func wantFront(b string) (api.TcFrame, int, api.Errno) {
	if len(b) < 5 {
		return api.TcFrame{}, 0, api.ErrForm
	}
	n := 1 + int(b[2]&3)*256 + int(b[3])
	if n < 8 || n > 207 || n > len(b) {
		return api.TcFrame{}, 0, api.ErrForm
	}
	f, e := wantGet(b[:n])
	if e != api.OK {
		n = 0
	}
	return f, n, e
}

// wantControl returns what a control frame says.
func wantControl(f api.TcFrame) (unlock bool, next int, ok bool) {
	if !wantValid(f) || !f.Control {
		return false, 0, false
	}
	for n := range 256 {
		if f.Data == "\x82\x00"+string([]byte{byte(n)}) {
			return false, n, true
		}
	}
	return f.Data == "\x00", 0, f.Data == "\x00"
}

// wantSegments returns the segments of a packet.
func wantSegments(packet string, most int) ([]string, api.Errno) {
	if packet == "" || len(packet) > 1030 || most < 1 || most > 199 {
		return nil, api.ErrArg
	}
	var l []string
	for rest := packet; rest != ""; {
		n := min(most, len(rest))
		flags := 0
		// The flags are bits that say that a segment is the first one, 1, and that it is the last one, 2.
		if len(l) == 0 {
			flags++
		}
		if n == len(rest) {
			flags += 2
		}
		l = append(l, bytesOf(fmt.Sprintf("%02b000000", flags))+rest[:n])
		rest = rest[n:]
	}
	return l, api.OK
}

// model is an assembler as the chapter describes it.
type model struct {
	open  bool
	parts string
}

// feed takes a segment.
func (m *model) feed(segment string) (piece api.Piece, e api.Errno) {
	if len(segment) < 2 || len(segment) > 200 || segment[0]%64 != 0 {
		return piece, api.ErrForm
	}
	part := segment[1:]
	switch segment[0] / 64 {
	case 3:
		piece = api.Piece{Whole: true, Message: part, Broken: m.open}
		*m = model{}
	case 1:
		piece.Broken = m.open
		*m = model{true, part}
	case 0, 2:
		if !m.open {
			break
		}
		m.parts += part
		if len(m.parts) > 1030 {
			piece.Broken = true
			*m = model{}
		} else if segment[0]/64 == 2 {
			piece.Whole, piece.Message = true, m.parts
			*m = model{}
		}
	}
	return piece, api.OK
}

// noBytes and noChannels return numbers that are no byte, and no channel; noSizes numbers of bytes that data cannot have.
func noBytes() []int {
	return []int{-1, 256, -2, -255, -256, 257, 511, 512, 1023, 1024, 1 << 16, 1 << 32, 1<<32 + 7, math.MinInt, math.MinInt + 7, math.MaxInt}
}

func noChannels() []int {
	return []int{-1, 8, -7, -8, 9, 15, 16, 63, 64, 255, 256, 1 << 32, 1<<32 + 3, math.MinInt, math.MinInt + 3, math.MaxInt}
}

func noSizes() []int { return []int{0, 201, 202, 255, 256, 257, 1017, 1018, 1019, 1024, 1025, 1 << 16} }

// noParts returns numbers of bytes that a part cannot have.
func noParts() []int {
	return []int{0, 200, -1, -199, 201, 255, 256, 257, 1030, 1 << 16, 1 << 32, 1<<32 + 9, math.MinInt, math.MinInt + 9, math.MaxInt}
}

// anyBytes returns n bytes.
func anyBytes(r *rand.Rand, n int) string {
	b := make([]byte, n)
	r.Read(b)
	return string(b)
}

// anySize returns a number of bytes from 1 to a limit, often a limit or one beside it.
func anySize(r *rand.Rand, most int) int {
	if i := r.Intn(8); i < 4 {
		return []int{1, 2, most - 1, most}[i]
	}
	return 1 + r.Intn(most)
}

// anyFrame returns a valid frame.
func anyFrame(r *rand.Rand) api.TcFrame {
	f := api.TcFrame{
		Craft:   r.Intn(256),
		Channel: r.Intn(8),
		Bypass:  r.Intn(2) == 0,
		Seq:     r.Intn(256),
		Data:    anyBytes(r, anySize(r, 200)),
	}
	f.Control = f.Bypass && r.Intn(2) == 0
	return f
}

// spoilt returns a frame with one thing that it cannot have.
func spoilt(r *rand.Rand, f api.TcFrame) api.TcFrame {
	pick := func(l []int) int { return l[r.Intn(len(l))] }
	switch r.Intn(5) {
	case 0:
		f.Craft = pick(noBytes())
	case 1:
		f.Channel = pick(noChannels())
	case 2:
		f.Seq = pick(noBytes())
	case 3:
		f.Data = anyBytes(r, pick(noSizes()))
	default:
		f.Bypass, f.Control = false, true
	}
	return f
}

// put returns the encoding of a frame.
func put(t *testing.T, f api.TcFrame) string {
	t.Helper()
	s, e := tcframe.Put(f)
	if e != api.OK {
		t.Fatalf("Put(%.99q): %d", fmt.Sprint(f), e)
	}
	return s
}

// segments returns the segments of a packet.
func segments(t *testing.T, packet string, most int) []string {
	t.Helper()
	l, e := tcframe.Segments(packet, most)
	if e != api.OK {
		t.Fatalf("Segments of %d bytes, most %d: %d", len(packet), most, e)
	}
	return l
}

// anySegment returns a segment, with the flags if they are not negative.
func anySegment(r *rand.Rand, flags int) string {
	if flags < 0 {
		flags = r.Intn(4)
	}
	return string([]byte{byte(flags << 6)}) + anyBytes(r, anySize(r, 199))
}

// noSegment returns a string that is no segment.
func noSegment(r *rand.Rand) string {
	s := anySegment(r, -1)
	switch r.Intn(4) {
	case 0:
		return ""
	case 1:
		return s[:1]
	case 2:
		return s[:1] + anyBytes(r, 200+r.Intn(3)*r.Intn(1000))
	}
	return string([]byte{s[0] + byte(1+r.Intn(63))}) + s[1:]
}

// fed returns the piece that an assembler returns for a segment.
func fed(t *testing.T, a *tcframe.Assembler, segment string) api.Piece {
	t.Helper()
	piece, e := a.Feed(segment)
	if e != api.OK {
		t.Fatalf("Feed(%.20x): %d", segment, e)
	}
	return piece
}

// opened returns the message that is open in an assembler, by ending it, if it is one that may have a byte more; there is none if ok is false.
func opened(t *testing.T, a *tcframe.Assembler) (message string, ok bool) {
	t.Helper()
	piece := fed(t, a, "\x80.")
	if !piece.Whole {
		return "", false
	}
	return piece.Message[:len(piece.Message)-1], true
}
