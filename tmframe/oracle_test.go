package tmframe_test

import (
	"fmt"
	"math"
	"math/rand"
	"slices"
	"strings"
	"testing"

	"perigee/api"
	"perigee/packet"
	"perigee/tmframe"
)

// This file: the definitions of the chapter, with headers as texts of binary digits and a filler of single bytes, and the frames and packets that the tests use.

// wantSum returns the checksum of a string as two bytes, bit by bit.
func wantSum(b string) string {
	register := uint32(0xffff)
	for i := range len(b) {
		for bit := 7; bit >= 0; bit-- {
			differ := register>>15&1 != uint32(b[i])>>bit&1
			register = register << 1 & 0xffff
			if differ {
				register ^= 0x1021
			}
		}
	}
	return string([]byte{byte(register >> 8), byte(register)})
}

// closed returns a string with its checksum behind it.
func closed(b string) string { return b + wantSum(b) }

// bytesOf returns the bytes whose bits are the digits of a text.
func bytesOf(digits string) string {
	b := make([]byte, len(digits)/8)
	for i := range b {
		fmt.Sscanf(digits[8*i:8*i+8], "%b", &b[i])
	}
	return string(b)
}

// digitsOf returns the bits of bytes as a text of digits.
func digitsOf(b string) string {
	var text strings.Builder
	for i := range len(b) {
		fmt.Fprintf(&text, "%08b", b[i])
	}
	return text.String()
}

// wantValid tells whether a frame is valid.
func wantValid(f api.TmFrame) bool {
	within := func(n, least, most int) bool { return least <= n && n <= most }
	size := len(f.Data)
	return within(f.Craft, 0, 255) && within(f.Channel, 0, 7) && within(f.Master, 0, 255) && within(f.Count, 0, 255) && within(size, 32, 200) && (within(f.First, 0, size-1) || within(f.First, 2046, 2047))
}

// wantPut returns the encoding of a valid frame.
func wantPut(f api.TmFrame) string {
	head := fmt.Sprintf("00%08b%03b000%08b%08b00000%011b", f.Craft, f.Channel, f.Master, f.Count, f.First)
	return closed(bytesOf(head) + f.Data + bytesOf(fmt.Sprintf("%032b", f.Word)))
}

// wantGet returns the frame whose encoding is a string.
func wantGet(b string) (f api.TmFrame, e api.Errno) {
	if len(b) < 44 || len(b) > 212 {
		return f, api.ErrForm
	}
	end := len(b) - 6
	if closed(b[:end+4]) != b {
		return f, api.ErrTmSum
	}
	digits := digitsOf(b[:6])
	for _, zeros := range []string{digits[:2], digits[13:16], digits[32:37]} {
		if strings.Contains(zeros, "1") {
			return f, api.ErrForm
		}
	}
	fmt.Sscanf(digits[2:10]+" "+digits[10:13]+" "+digits[16:24]+" "+digits[24:32]+" "+digits[37:], "%b %b %b %b %b", &f.Craft, &f.Channel, &f.Master, &f.Count, &f.First)
	fmt.Sscanf(digitsOf(b[end:end+4]), "%b", &f.Word)
	f.Data = b[6:end]
	if !wantValid(f) {
		return api.TmFrame{}, api.ErrForm
	}
	return f, api.OK
}

// cell is a byte that goes into a field, and whether a packet begins with it.
type cell struct {
	value byte
	first bool
}

// cellsOf returns the bytes of a packet.
func cellsOf(packet string) []cell {
	var cells []cell
	for i := range len(packet) {
		cells = append(cells, cell{packet[i], i == 0})
	}
	return cells
}

// model is a filler as the chapter describes it.
type model struct {
	size          int
	waiting, rest []cell
}

// add adds a packet, and returns whether there was room.
func (m *model) add(packet string) bool {
	if len(m.waiting)+len(packet) > 65536 {
		return false
	}
	m.waiting = append(m.waiting, cellsOf(packet)...)
	return true
}

// next returns the next field.
func (m *model) next() (data string, first int, ok bool) {
	if len(m.waiting) == 0 {
		return "", 0, false
	}
	all := slices.Concat(m.rest, m.waiting)
	if len(all) >= m.size {
		m.rest, m.waiting = nil, slices.Clone(all[m.size:])
	} else {
		r := m.size - len(all)
		all = append(all, cellsOf(wantIdle(max(r, 7)))...)
		m.rest, m.waiting = slices.Clone(all[m.size:]), nil
	}
	b := make([]byte, m.size)
	first = 2047
	for i := m.size - 1; i >= 0; i-- {
		b[i] = all[i].value
		if all[i].first {
			first = i
		}
	}
	return string(b), first, true
}

// clear drops everything.
func (m *model) clear() { m.waiting, m.rest = nil, nil }

// wantIdle returns the idle packet of a size up to 262.
func wantIdle(size int) string {
	return "\x07\xff\xc0\x00\x00" + string([]byte{byte(size - 7)}) + strings.Repeat("\x00", size-6)
}

// noSizes, noBytes, noChannels and noFirsts return numbers that the size of a data field, a craft or a count, a channel, and the place of the first packet (in a field of 32 to 200 bytes) cannot be.
func noSizes() []int {
	return []int{31, 201, 0, 1, -1, -32, 30, 202, 255, 256, 1 << 16, 1<<32 + 32, 1<<32 + 100, math.MinInt, math.MinInt + 32, math.MaxInt}
}

func noBytes() []int {
	return []int{-1, 256, -2, -255, -256, 257, 511, 512, 1 << 16, 1 << 32, 1<<32 + 7, math.MinInt, math.MinInt + 7, math.MaxInt}
}

func noChannels() []int {
	return []int{-1, 8, -7, -8, 9, 15, 16, 255, 256, 1 << 32, 1<<32 + 3, math.MinInt, math.MinInt + 3, math.MaxInt}
}

func noFirsts() []int {
	return []int{-1, 200, 201, 2045, 2048, -2, -2046, 255, 256, 1023, 1024, 2044, 2049, 4094, 4095, 1 << 16, 1 << 32, 1<<32 + 5, math.MinInt, math.MinInt + 5, math.MaxInt}
}

// anyBytes returns n bytes.
func anyBytes(r *rand.Rand, n int) string {
	b := make([]byte, n)
	r.Read(b)
	return string(b)
}

// anySize returns the size of a data field, often the least or the greatest one.
func anySize(r *rand.Rand) int {
	if i := r.Intn(8); i < 2 {
		return []int{32, 200}[i]
	}
	return 32 + r.Intn(169)
}

// anyFrame returns a valid frame.
func anyFrame(r *rand.Rand) api.TmFrame {
	size := anySize(r)
	firsts := []int{0, size - 1, 2046, 2047, r.Intn(size), r.Intn(size)}
	return api.TmFrame{
		Craft:   r.Intn(256),
		Channel: r.Intn(8),
		Master:  r.Intn(256),
		Count:   r.Intn(256),
		First:   firsts[r.Intn(len(firsts))],
		Data:    anyBytes(r, size),
		Word:    r.Uint32(),
	}
}

// spoilt returns a frame with one number that it cannot have.
func spoilt(r *rand.Rand, f api.TmFrame) api.TmFrame {
	pick := func(l []int) int { return l[r.Intn(len(l))] }
	switch r.Intn(7) {
	case 0:
		f.Craft = pick(noBytes())
	case 1:
		f.Channel = pick(noChannels())
	case 2:
		f.Master = pick(noBytes())
	case 3:
		f.Count = pick(noBytes())
	case 4:
		f.First = pick(noFirsts())
	case 5:
		f.First = len(f.Data)
	default:
		f.Data = anyBytes(r, []int{0, 1, 31, 201, 202, 1000}[r.Intn(6)])
	}
	return f
}

// put returns the encoding of a frame.
func put(t *testing.T, f api.TmFrame) string {
	t.Helper()
	s, e := tmframe.Put(f)
	if e != api.OK {
		t.Fatalf("Put(%.99q): %d", fmt.Sprint(f), e)
	}
	return s
}

// newFiller returns a filler of fields of a size.
func newFiller(t *testing.T, size int) *tmframe.Filler {
	t.Helper()
	f, e := tmframe.New(size)
	if f == nil || e != api.OK {
		t.Fatalf("New(%d): %v, %d", size, f, e)
	}
	return f
}

// sized returns a packet of n bytes, that is not idle.
func sized(t *testing.T, r *rand.Rand, n int) string {
	t.Helper()
	s, e := packet.Put(api.Packet{Command: r.Intn(2) == 0, APID: r.Intn(2047), Flags: r.Intn(4), Count: r.Intn(16384), Data: anyBytes(r, n-6)})
	if e != api.OK || len(s) != n {
		t.Fatalf("a packet of %d bytes: %d", n, e)
	}
	return s
}

// anyLength returns a number of bytes of a packet, sometimes the least or the greatest one.
func anyLength(r *rand.Rand) int {
	if i := r.Intn(20); i < 2 {
		return []int{7, 1030}[i]
	}
	return 7 + r.Intn([]int{10, 40, 300}[r.Intn(3)])
}

// add adds packets to a filler.
func add(t *testing.T, f *tmframe.Filler, packets ...string) {
	t.Helper()
	for _, p := range packets {
		if e := f.Add(p); e != api.OK {
			t.Fatalf("Add of %d bytes to %d: %d", len(p), f.Waiting(), e)
		}
	}
}

// checkNext fails if the next field of a filler is another one.
func checkNext(t *testing.T, f *tmframe.Filler, data string, first int) {
	t.Helper()
	if s, place, ok := f.Next(); s != data || place != first || !ok {
		t.Fatalf("Next() = %x, %d, %v, not %x, %d", s, place, ok, data, first)
	}
}

// checkNothing fails if something waits in a filler.
func checkNothing(t *testing.T, f *tmframe.Filler) {
	t.Helper()
	if s, place, ok := f.Next(); s != "" || place != 0 || ok || f.Waiting() != 0 {
		t.Fatalf("Next() = %x, %d, %v, and %d bytes wait", s, place, ok, f.Waiting())
	}
}

// checkSame fails if the next field of a filler is not that of its model, and tells whether there is one.
func checkSame(t *testing.T, f *tmframe.Filler, m *model) bool {
	t.Helper()
	data, first, ok := m.next()
	if s, place, some := f.Next(); s != data || place != first || some != ok || f.Waiting() != len(m.waiting) {
		t.Fatalf("Next() = %x, %d, %v, and %d bytes wait, not %x, %d, %v, %d", s, place, some, f.Waiting(), data, first, ok, len(m.waiting))
	}
	return ok
}
