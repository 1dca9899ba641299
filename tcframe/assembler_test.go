package tcframe_test

import (
	"fmt"
	"math/rand"
	"strings"
	"testing"

	"perigee/api"
	"perigee/tcframe"
)

// step is a segment, and the piece that is to follow from it.
type step struct {
	segment string
	want    api.Piece
}

// checkSteps fails if an assembler returns other pieces for these segments.
func checkSteps(t *testing.T, a *tcframe.Assembler, steps []step) {
	t.Helper()
	for i, s := range steps {
		if piece := fed(t, a, s.segment); piece != s.want {
			t.Fatalf("step %d: %.99q, not %.99q", i, fmt.Sprint(piece), fmt.Sprint(s.want))
		}
	}
}

func whole(message string) api.Piece { return api.Piece{Whole: true, Message: message} }

func TestP12_5Examples(t *testing.T) {
	a := tcframe.New()
	checkSteps(t, a, []step{{"\xc0a", whole("a")}})
	checkSteps(t, a, []step{
		{"\x40ab", api.Piece{}},
		{"\x00cd", api.Piece{}},
		{"\x40ab", api.Piece{Broken: true}},
		{"\x80e", whole("abe")},
		{"\x80e", api.Piece{}},
	})
	for _, b := range []string{"\xc0", "\x41a"} {
		if piece, e := a.Feed(b); piece != (api.Piece{}) || e != api.ErrForm {
			t.Errorf("Feed(%x) = %v, %d", b, piece, e)
		}
	}
}

// An assembler has no open message at first.
func TestP12_5New(t *testing.T) {
	if a := tcframe.New(); a == nil || a == tcframe.New() {
		t.Fatalf("New() = %v", a)
	}
	for _, s := range []step{
		{"\xc0x", whole("x")},
		{"\x40x", api.Piece{}},
		{"\x00x", api.Piece{}},
		{"\x80x", api.Piece{}},
	} {
		a := tcframe.New()
		checkSteps(t, a, []step{s})
		// Only the first segment of a message opens one.
		want := api.Piece{}
		if s.segment == "\x40x" {
			want = whole("xy")
		}
		checkSteps(t, a, []step{{"\x80y", want}})
	}
}

// Each kind of segment, with an open message and without one, and what follows.
func TestP12_5Kinds(t *testing.T) {
	a := tcframe.New()
	checkSteps(t, a, []step{
		{"\x40a", api.Piece{}},
		{"\xc0b", api.Piece{Whole: true, Message: "b", Broken: true}},
		{"\x00c", api.Piece{}},
		{"\x80d", api.Piece{}},
		{"\x40e", api.Piece{}},
		{"\x40f", api.Piece{Broken: true}},
		{"\x00g", api.Piece{}},
		{"\x00h", api.Piece{}},
		{"\x80i", whole("fghi")},
		{"\x00j", api.Piece{}},
		{"\xc0k", whole("k")},
		{"\xc0l", whole("l")},
		{"\x40m", api.Piece{}},
		{"\x80n", whole("mn")},
		{"\x80o", api.Piece{}},
		{"\x40\x00", api.Piece{}},
		{"\x80\x00", whole("\x00\x00")},
	})
}

// filled returns the steps of a message that stays open, in parts of up to so many bytes.
func filled(message string, most int) []step {
	steps := []step{{"\x40" + message[:most], api.Piece{}}}
	for from := most; from < len(message); from += most {
		steps = append(steps, step{"\x00" + message[from:min(len(message), from+most)], api.Piece{}})
	}
	return steps
}

// A message may have 1030 bytes; with one more it is given up, and what follows is no part of it.
func TestP12_5Long(t *testing.T) {
	r := rand.New(rand.NewSource(125))
	a := tcframe.New()
	for _, most := range []int{1, 7, 103, 198, 199} {
		for n := 1030 - 199; n <= 1030; n++ {
			message := anyBytes(r, n)
			steps := filled(message, most)
			rest := 1030 - n
			if rest > 0 {
				last := anyBytes(r, rest)
				checkSteps(t, a, append(steps[:len(steps):len(steps)], step{"\x80" + last, whole(message + last)}))
			}
			for _, first := range []string{"\x00", "\x80"} {
				for over := 1; rest+over <= 199; over += 1 + over*over {
					checkSteps(t, a, append(steps[:len(steps):len(steps)],
						step{first + anyBytes(r, rest+over), api.Piece{Broken: true}},
						step{"\x00d", api.Piece{}},
						step{"\x80e", api.Piece{}},
						step{"\x40f", api.Piece{}},
						step{"\x80g", whole("fg")},
					))
				}
			}
		}
		steps := filled(strings.Repeat("m", 1030), most)
		checkSteps(t, a, append(steps, step{"\x40n", api.Piece{Broken: true}}, step{"\xc0o", api.Piece{Whole: true, Message: "o", Broken: true}}))
	}
}

// All first bytes, and all lengths: what is no segment changes nothing.
func TestP12_5Form(t *testing.T) {
	for first := range 256 {
		for length := range 260 {
			if length > 3 && length < 198 && first%64 != 0 && length%20 != 0 {
				continue
			}
			a := tcframe.New()
			fed(t, a, "\x40open")
			b := strings.Repeat("x", length)
			if length > 0 {
				b = string([]byte{byte(first)}) + b[1:]
			}
			m := model{true, "open"}
			want, w := m.feed(b)
			if piece, e := a.Feed(b); piece != want || e != w {
				t.Fatalf("Feed of %d bytes from %02x on: %v, %d, not %v, %d", length, first, piece, e, want, w)
			}
			if message, ok := opened(t, a); message != m.parts || ok != m.open {
				t.Fatalf("behind %d bytes from %02x on the message %q, %v is open, not %q, %v", length, first, message, ok, m.parts, m.open)
			}
		}
	}
	a := tcframe.New()
	for _, n := range []int{201, 1000, 1030, 1 << 16, 1<<16 + 1, 1 << 20} {
		if piece, e := a.Feed(strings.Repeat("\x00", n)); piece != (api.Piece{}) || e != api.ErrForm {
			t.Errorf("Feed of %d bytes: %v, %d", n, piece, e)
		}
	}
}

// Segments in any order, and others that are none.
func TestP12_5Random(t *testing.T) {
	r := rand.New(rand.NewSource(1250))
	var wholes, broken, long, refused int
	for i := range 400 {
		a, m := tcframe.New(), &model{}
		for range 200 {
			// In some rounds most segments are middle ones, so that messages grow.
			flags := r.Intn(4)
			if i%2 == 0 && r.Intn(4) > 0 {
				flags = api.SfMiddle
			}
			s := anySegment(r, flags)
			if m.open && r.Intn(3) == 0 {
				// Up to the limit, or one byte over it.
				if n := 1030 - len(m.parts) + r.Intn(2); n >= 1 && n <= 199 {
					s = s[:1] + anyBytes(r, n)
				}
			}
			if r.Intn(12) == 0 {
				s = noSegment(r)
			}
			before := *m
			want, w := m.feed(s)
			if piece, e := a.Feed(s); piece != want || e != w {
				t.Fatalf("Feed(%x) = %.99q, %d, not %.99q, %d", s, fmt.Sprint(piece), e, fmt.Sprint(want), w)
			}
			switch {
			case w != api.OK:
				refused++
			case want.Broken && s[0]&0x40 == 0:
				long++
			case want.Broken:
				broken++
			case want.Whole && before.open:
				wholes++
			}
		}
	}
	if wholes < 1000 || broken < 1000 || long < 200 || refused < 1000 {
		t.Errorf("only %d messages, %d that were given up, %d that were too long, and %d strings that are no segment", wholes, broken, long, refused)
	}
}
