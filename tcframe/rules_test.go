package tcframe_test

import (
	"fmt"
	"math/rand"
	"slices"
	"strings"
	"sync"
	"testing"

	"perigee/api"
	"perigee/tcframe"
)

// R1: every function returns for all arguments.
func TestRuleReturns(t *testing.T) {
	assemblers := []*tcframe.Assembler{nil, {}, tcframe.New()}
	texts := []string{"", "\x00", "\x40a", "\x80", strings.Repeat("\x00", 5), strings.Repeat("\xff", 8), strings.Repeat("\x00", 200), strings.Repeat("\x40", 207), strings.Repeat("\x00", 1<<20), closed("\x00\x00\x00\x07\x00a"), closed(strings.Repeat("\xff", 205))}
	for _, b := range texts {
		for range 10 {
			for _, a := range assemblers {
				a.Feed(b)
				a.Feed("\x00" + b)
			}
		}
		tcframe.Get(b)
		tcframe.Front(b)
		for _, most := range append(noParts(), 1, 100, 199) {
			tcframe.Segments(b, most)
		}
		for _, craft := range append(noBytes(), 0, 255) {
			for _, channel := range append(noChannels(), 0, 7) {
				tcframe.Unlock(craft, channel)
				tcframe.SetNext(craft, channel, channel)
				tcframe.SetNext(channel, channel, craft)
				for flags := range 4 {
					f := api.TcFrame{Craft: craft, Channel: channel, Bypass: flags&1 != 0, Control: flags&2 != 0, Seq: craft, Data: b}
					tcframe.Put(f)
					tcframe.Control(f)
				}
			}
		}
	}
}

// R2: with an error, or where a frame says nothing, the other results are zero.
func TestRuleErrors(t *testing.T) {
	r := rand.New(rand.NewSource(2))
	errors := map[api.Errno]int{}
	check := func(name string, zero bool, e api.Errno) {
		t.Helper()
		errors[e]++
		if (e == api.OK) == zero {
			t.Fatalf("%s: the error %d, but zero is %v", name, e, zero)
		}
	}
	for range 3000 {
		f := anyFrame(r)
		s := put(t, f)
		if r.Intn(2) == 0 {
			f = spoilt(r, f)
		}
		b, e := tcframe.Put(f)
		check("Put", b == "", e)
		switch r.Intn(4) {
		case 0:
			s = inverted(s, 30, 0x8000)
		case 1:
			s = closed("\x80" + s[1:len(s)-2])
		case 2:
			s = s[:r.Intn(7)]
		}
		g, e := tcframe.Get(s)
		check("Get", g == api.TcFrame{}, e)
		g, n, e := tcframe.Front(s + "more")
		check("Front", g == api.TcFrame{} && n == 0, e)
		g, e = tcframe.Unlock(r.Intn(300)-20, r.Intn(12)-2)
		check("Unlock", g == api.TcFrame{}, e)
		g, e = tcframe.SetNext(r.Intn(300)-20, r.Intn(12)-2, r.Intn(300)-20)
		check("SetNext", g == api.TcFrame{}, e)
		if unlock, next, ok := tcframe.Control(g); !ok && (unlock || next != 0) {
			t.Fatalf("Control(%v) = %v, %d, %v", g, unlock, next, ok)
		}
		l, e := tcframe.Segments(strings.Repeat("p", r.Intn(2000)), r.Intn(300)-20)
		check("Segments", len(l) == 0, e)
		if piece, e := tcframe.New().Feed(noSegment(r)); piece != (api.Piece{}) || e != api.ErrForm {
			t.Fatalf("Feed: %v, %d", piece, e)
		}
	}
	for _, e := range []api.Errno{api.OK, api.ErrArg, api.ErrForm, api.ErrTcSum} {
		if errors[e] < 500 {
			t.Errorf("only these errors: %v", errors)
		}
	}
}

// R3: lists are new memory, and messages that were returned do not change.
func TestRuleNewResults(t *testing.T) {
	r := rand.New(rand.NewSource(3))
	packet := anyBytes(r, 500)
	first, second := segments(t, packet, 100), segments(t, packet, 100)
	want := slices.Clone(second)
	a := tcframe.New()
	var messages, copies []string
	for i, s := range first {
		if piece := fed(t, a, s); piece.Whole {
			messages, copies = append(messages, piece.Message), append(copies, strings.Clone(piece.Message))
		}
		first[i] = "spoilt"
	}
	_ = append(first[:1], "spoilt")
	if !slices.Equal(second, want) || !slices.Equal(segments(t, packet, 100), want) {
		t.Errorf("other segments have become %x", second)
	}
	for range 1000 {
		if piece := fed(t, a, anySegment(r, -1)); piece.Whole {
			messages, copies = append(messages, piece.Message), append(copies, strings.Clone(piece.Message))
		}
	}
	if !slices.Equal(messages, copies) || len(messages) < 100 || messages[0] != packet {
		t.Errorf("%d messages, and not all as they were", len(messages))
	}
}

// R5: only what New returned is an assembler; the others do nothing, and say so before they look at a segment.
func TestRuleObjects(t *testing.T) {
	a := tcframe.New()
	fed(t, a, "\x40a")
	double := new(*a)
	for _, other := range []*tcframe.Assembler{nil, new(tcframe.Assembler), double} {
		for _, s := range []string{"\xc0b", "\x40b", "\x00b", "\x80b", "", "\x01", "\x81b"} {
			if piece, e := other.Feed(s); piece != (api.Piece{}) || e != api.ErrNil {
				t.Errorf("Feed(%x) = %v, %d", s, piece, e)
			}
		}
	}
	if piece := fed(t, a, "\x80c"); piece != whole("ac") {
		t.Errorf("the assembler itself: %v", piece)
	}
}

// allResults returns what each function returns for a few arguments.
func allResults() string {
	r := rand.New(rand.NewSource(6))
	var l []any
	add := func(results ...any) { l = append(l, results...) }
	a := tcframe.New()
	for i := range 40 {
		f := anyFrame(r)
		s, e := tcframe.Put(f)
		add(s, e)
		g, e := tcframe.Get(s[i%2:])
		add(g, e)
		g, n, e := tcframe.Front(s + s)
		add(g, n, e)
		g, e = tcframe.Unlock(10*i, i%9)
		add(g, e)
		g, e = tcframe.SetNext(i, i%9, 10*i)
		add(g, e)
		unlock, next, ok := tcframe.Control(g)
		add(unlock, next, ok)
		parts, e := tcframe.Segments(s, 7*i)
		add(parts, e)
		for _, part := range append(parts, anySegment(r, -1), noSegment(r)) {
			piece, e := a.Feed(part)
			add(piece, e)
		}
	}
	return fmt.Sprintf("%x", l)
}

// R6: results do not depend on earlier calls, nor on calls at the same time.
func TestRuleNoState(t *testing.T) {
	first := allResults()
	for range 20 {
		if again := allResults(); again != first {
			t.Fatalf("first %s, then %s", first, again)
		}
	}
	var wait sync.WaitGroup
	for range 8 {
		wait.Go(func() {
			if again := allResults(); again != first {
				t.Errorf("at the same time %s, not %s", again, first)
			}
		})
	}
	wait.Wait()
}

// R6: assemblers that are fed by turns are independent.
func TestRuleIndependent(t *testing.T) {
	r := rand.New(rand.NewSource(66))
	var assemblers []*tcframe.Assembler
	models := make([]model, 10)
	for range models {
		assemblers = append(assemblers, tcframe.New())
	}
	for range 500 {
		for i, a := range assemblers {
			s := anySegment(r, -1)
			piece := fed(t, a, s)
			if want, _ := models[i].feed(s); piece != want {
				t.Fatalf("assembler %d: %.99q, not %.99q", i, fmt.Sprint(piece), fmt.Sprint(want))
			}
		}
	}
}
