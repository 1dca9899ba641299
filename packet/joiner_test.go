package packet_test

import (
	"fmt"
	"math/rand"
	"strings"
	"testing"

	"perigee/api"
	"perigee/packet"
)

// step is a packet of the APID 5, and the piece and the number of open messages that are to follow from it.
type step struct {
	flags, count int
	data         string
	want         api.Piece
	open         int
}

// checkSteps fails if a new joiner returns other pieces for these packets, whose counts are meant modulo 16384.
func checkSteps(t *testing.T, steps []step) {
	t.Helper()
	j := packet.New()
	for i, s := range steps {
		p := api.Packet{APID: 5, Flags: s.flags, Count: s.count % 16384, Data: s.data}
		if piece := fed(t, j, p); piece != s.want || j.Open() != s.open {
			t.Errorf("step %d: %.99q, %d open, not %.99q, %d", i, fmt.Sprint(piece), j.Open(), fmt.Sprint(s.want), s.open)
		}
	}
}

func whole(message string) api.Piece { return api.Piece{Whole: true, Message: message} }

func TestP9_5Examples(t *testing.T) {
	checkSteps(t, []step{
		{api.SfFirst, 16383, "ab", api.Piece{}, 1},
		{api.SfMiddle, 0, "cd", api.Piece{}, 1},
		{api.SfLast, 1, "e", whole("abcde"), 0},
	})
	checkSteps(t, []step{
		{api.SfFirst, 16383, "ab", api.Piece{}, 1},
		{api.SfLast, 1, "e", api.Piece{Missed: 1, Broken: true}, 0},
		{api.SfOnly, 2, "x", whole("x"), 0},
	})
}

// A joiner that has seen nothing knows of no count, and has no message.
func TestP9_5New(t *testing.T) {
	if j := packet.New(); j == nil || j.Open() != 0 {
		t.Fatalf("New() = %v", j)
	}
	for _, count := range []int{0, 1, 77, 16382, 16383} {
		next := count + 1
		checkSteps(t, []step{{api.SfOnly, count, "x", whole("x"), 0}, {api.SfOnly, next, "y", whole("y"), 0}})
		checkSteps(t, []step{{api.SfFirst, count, "x", api.Piece{}, 1}, {api.SfLast, next, "y", whole("xy"), 0}})
		checkSteps(t, []step{{api.SfMiddle, count, "x", api.Piece{}, 0}, {api.SfLast, next, "y", api.Piece{}, 0}})
		checkSteps(t, []step{{api.SfLast, count, "x", api.Piece{}, 0}, {api.SfMiddle, next, "y", api.Piece{}, 0}})
	}
}

// A packet that begins a message gives the open one up, also if none is missing; what follows belongs to the new one.
func TestP9_5Begins(t *testing.T) {
	checkSteps(t, []step{
		{api.SfFirst, 1, "ab", api.Piece{}, 1},
		{api.SfFirst, 2, "cd", api.Piece{Broken: true}, 1},
		{api.SfMiddle, 3, "ef", api.Piece{}, 1},
		{api.SfLast, 4, "g", whole("cdefg"), 0},
		{api.SfFirst, 5, "h", api.Piece{}, 1},
		{api.SfOnly, 6, "i", api.Piece{Whole: true, Message: "i", Broken: true}, 0},
		{api.SfLast, 7, "j", api.Piece{}, 0},
		{api.SfFirst, 8, "k", api.Piece{}, 1},
		{api.SfLast, 9, "l", whole("kl"), 0},
		{api.SfFirst, 10, "m", api.Piece{}, 1},
	})
}

// Behind a gap the open message is given up, whatever comes.
func TestP9_5Gaps(t *testing.T) {
	checkSteps(t, []step{
		{api.SfFirst, 1, "a", api.Piece{}, 1},
		{api.SfFirst, 3, "b", api.Piece{Missed: 1, Broken: true}, 1},
		{api.SfOnly, 6, "c", api.Piece{Whole: true, Message: "c", Missed: 2, Broken: true}, 0},
		{api.SfOnly, 10, "d", api.Piece{Whole: true, Message: "d", Missed: 3}, 0},
		{api.SfFirst, 15, "e", api.Piece{Missed: 4}, 1},
		{api.SfMiddle, 21, "f", api.Piece{Missed: 5, Broken: true}, 0},
		{api.SfMiddle, 22, "g", api.Piece{}, 0},
		{api.SfLast, 23, "h", api.Piece{}, 0},
		{api.SfMiddle, 25, "i", api.Piece{Missed: 1}, 0},
		{api.SfLast, 27, "j", api.Piece{Missed: 1}, 0},
		{api.SfFirst, 28, "k", api.Piece{}, 1},
		{api.SfLast, 30, "l", api.Piece{Missed: 1, Broken: true}, 0},
		{api.SfLast, 31, "m", api.Piece{}, 0},
	})
}

// A packet once more looks as if all the others were missing.
func TestP9_5Twice(t *testing.T) {
	checkSteps(t, []step{
		{api.SfFirst, 1, "a", api.Piece{}, 1},
		{api.SfMiddle, 2, "b", api.Piece{}, 1},
		{api.SfMiddle, 2, "b", api.Piece{Missed: 16383, Broken: true}, 0},
		{api.SfOnly, 0, "c", api.Piece{Whole: true, Message: "c", Missed: 16381}, 0},
		{api.SfOnly, 0, "c", api.Piece{Whole: true, Message: "c", Missed: 16383}, 0},
	})
}

// All distances from the expected count, with a message that is open and without one.
func TestP9_5Missed(t *testing.T) {
	for _, expected := range []int{0, 1, 8000, 16383} {
		for distance := range 16384 {
			before, count := expected+16383, expected+distance
			want := api.Piece{Missed: distance, Broken: distance != 0}
			if distance == 0 {
				want = whole("ab")
			}
			checkSteps(t, []step{{api.SfFirst, before, "a", api.Piece{}, 1}, {api.SfLast, count, "b", want, 0}})
			checkSteps(t, []step{{api.SfOnly, before, "a", whole("a"), 0}, {api.SfLast, count, "b", api.Piece{Missed: distance}, 0}})
		}
	}
}

// filled returns the steps of a message of n bytes that stays open, in packets of up to so many bytes.
func filled(message string, most int) []step {
	steps := []step{{api.SfFirst, 0, message[:most], api.Piece{}, 1}}
	for from := most; from < len(message); from += most {
		steps = append(steps, step{api.SfMiddle, len(steps), message[from:min(len(message), from+most)], api.Piece{}, 1})
	}
	return steps
}

// A message may have 16384 bytes; with one more it is given up, and what follows is no part of it.
func TestP9_5Long(t *testing.T) {
	r := rand.New(rand.NewSource(95))
	for _, most := range []int{1, 7, 1000, 1024} {
		for _, n := range []int{16382, 16383, 16384} {
			message := anyBytes(r, n)
			steps := filled(message, most)
			count := len(steps)
			rest := 16384 - n
			if rest > 0 {
				checkSteps(t, append(steps[:count:count], step{api.SfLast, count, "abc"[:rest], whole(message + "abc"[:rest]), 0}))
			}
			for _, flags := range []int{api.SfMiddle, api.SfLast} {
				checkSteps(t, append(steps[:count:count],
					step{flags, count, "abc"[:rest+1], api.Piece{Broken: true}, 0},
					step{api.SfMiddle, count + 1, "d", api.Piece{}, 0},
					step{api.SfLast, count + 2, "e", api.Piece{}, 0},
					step{api.SfFirst, count + 3, "f", api.Piece{}, 1},
					step{api.SfLast, count + 4, "g", whole("fg"), 0},
				))
			}
		}
	}
	steps := filled(strings.Repeat("a", 16384), 1024)
	checkSteps(t, append(steps[:16:16], step{api.SfLast, 16, strings.Repeat("b", 1024), api.Piece{Broken: true}, 0}))
	steps[15] = step{api.SfLast, 15, strings.Repeat("a", 1024), whole(strings.Repeat("a", 16384)), 0}
	checkSteps(t, steps)
}

// Idle packets change nothing, whatever they look like.
func TestP9_5Idle(t *testing.T) {
	j := packet.New()
	idle := func() {
		t.Helper()
		open := j.Open()
		for flags := range 4 {
			for _, count := range []int{0, 3, 16383} {
				for _, command := range []bool{false, true} {
					if piece := fed(t, j, api.Packet{Command: command, APID: 2047, Flags: flags, Count: count, Data: "i"}); piece != (api.Piece{}) || j.Open() != open {
						t.Fatalf("an idle packet: %v, %d open", piece, j.Open())
					}
				}
			}
		}
	}
	idle()
	for i, p := range split(t, 2046, 3, "abcdefg", 2) {
		want := api.Piece{}
		if i == 3 {
			want = whole("abcdefg")
		}
		if piece := fed(t, j, p); piece != want {
			t.Errorf("packet %d: %v", i, piece)
		}
		idle()
	}
}

// A message is that of an APID: commands and telemetry with the same one are not told apart.
func TestP9_5Commands(t *testing.T) {
	j := packet.New()
	fed(t, j, api.Packet{APID: 9, Flags: api.SfFirst, Count: 4, Data: "a"})
	if piece := fed(t, j, api.Packet{Command: true, APID: 9, Flags: api.SfLast, Count: 5, Data: "b"}); piece != whole("ab") {
		t.Errorf("%v", piece)
	}
}

// Each APID has its own message and its own count; all of them may be open.
func TestP9_5APIDs(t *testing.T) {
	j := packet.New()
	for apid := range 2047 {
		p := api.Packet{APID: apid, Flags: api.SfFirst, Count: 8 * apid % 16384, Data: fmt.Sprint(apid)}
		if piece := fed(t, j, p); piece != (api.Piece{}) || j.Open() != apid+1 {
			t.Fatalf("APID %d: %v, %d open", apid, piece, j.Open())
		}
	}
	for apid := range 2047 {
		p := api.Packet{APID: apid, Flags: api.SfLast, Count: 8*apid%16384 + 1, Data: "."}
		if piece := fed(t, j, p); piece != whole(fmt.Sprint(apid)+".") || j.Open() != 2046-apid {
			t.Fatalf("APID %d: %v, %d open", apid, piece, j.Open())
		}
	}
}

// Packets of a few APIDs with counts that are mostly the expected ones, idle and invalid ones among them.
func TestP9_5Random(t *testing.T) {
	r := rand.New(rand.NewSource(950))
	var wholes, broken int
	for range 200 {
		j, m, next := packet.New(), model{}, map[int]int{}
		for range 500 {
			p := anyPacket(r)
			p.APID = []int{0, 1, 2, 2046, 2047}[r.Intn(5)]
			if r.Intn(10) > 0 {
				p.Count = next[p.APID]
			}
			if r.Intn(20) == 0 {
				p = spoilt(r, p)
			}
			piece, e := j.Feed(p)
			if want, f := m.feed(p); piece != want || e != f || j.Open() != m.opened() {
				t.Fatalf("Feed(%.99q) = %.99q, %d, %d open, not %.99q, %d, %d", fmt.Sprint(p), fmt.Sprint(piece), e, j.Open(), fmt.Sprint(want), f, m.opened())
			}
			if e == api.OK {
				next[p.APID] = (p.Count + 1) % 16384
			}
			if piece.Whole {
				wholes++
			}
			if piece.Broken {
				broken++
			}
		}
	}
	if wholes < 10000 || broken < 10000 {
		t.Errorf("only %d messages, and %d that were given up", wholes, broken)
	}
}

// Long messages among others: they reach the limit, or pass it.
func TestP9_5RandomLong(t *testing.T) {
	r := rand.New(rand.NewSource(951))
	var full, over int
	for range 100 {
		j, m := packet.New(), model{}
		for count := range 200 {
			p := api.Packet{APID: count % 2, Flags: api.SfMiddle, Count: count / 2, Data: anyBytes(r, 1024-r.Intn(2)*r.Intn(2))}
			if r.Intn(18) == 0 {
				p.Flags = r.Intn(4)
			}
			if s := m[p.APID]; s != nil && len(s.message) > 16384-1024 && r.Intn(2) == 0 {
				p.Data = p.Data[:16384-len(s.message)] + strings.Repeat("z", r.Intn(2))
				if p.Data == "" {
					p.Data = "z"
				}
			}
			piece, e := j.Feed(p)
			want, f := m.feed(p)
			if piece != want || e != f || j.Open() != m.opened() {
				t.Fatalf("a packet with the flags %d: %.99q, %d, not %.99q, %d", p.Flags, fmt.Sprint(piece), e, fmt.Sprint(want), f)
			}
			if s := m[p.APID]; s != nil && len(s.message) == 16384 {
				full++
			}
			if piece.Broken && piece.Missed == 0 && p.Flags == api.SfMiddle {
				over++
			}
		}
	}
	if full < 20 || over < 20 {
		t.Errorf("only %d messages that are full, and %d that were too long", full, over)
	}
}

// With an error a joiner is as before.
func TestP9_5Refused(t *testing.T) {
	r := rand.New(rand.NewSource(952))
	j := packet.New()
	packets := split(t, 7, 16380, anyBytes(r, 100), 9)
	for i, p := range packets {
		for range 100 {
			bad := spoilt(r, p)
			if piece, e := j.Feed(bad); piece != (api.Piece{}) || e != api.ErrArg || j.Open() != min(i, 1) {
				t.Fatalf("Feed(%.99q) = %v, %d, %d open", fmt.Sprint(bad), piece, e, j.Open())
			}
		}
		if piece := fed(t, j, p); piece.Missed != 0 || piece.Broken || piece.Whole != (i == len(packets)-1) {
			t.Fatalf("packet %d: %v", i, piece)
		}
	}
}
