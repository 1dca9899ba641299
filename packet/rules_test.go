package packet_test

import (
	"fmt"
	"math/rand"
	"slices"
	"strings"
	"sync"
	"testing"

	"perigee/api"
	"perigee/packet"
)

// R1: every function returns for all arguments.
func TestRuleReturns(t *testing.T) {
	joiners := []*packet.Joiner{nil, {}, packet.New()}
	texts := []string{"", "\x00", strings.Repeat("\x00", 6), strings.Repeat("\xff", 6), strings.Repeat("\x00", 1025), strings.Repeat("a", 1<<20)}
	for _, apid := range append(noAPIDs(), 0, 1, 2046, 2047) {
		packet.Idle(apid)
		for _, count := range append(noCounts(), 0, 16383) {
			for _, data := range texts {
				for _, flags := range append(noFlags(), 0, 1, 2, 3) {
					p := api.Packet{Command: flags%2 == 0, APID: apid, Flags: flags, Count: count, Data: data}
					packet.Valid(p)
					packet.Put(p)
					for _, j := range joiners {
						j.Feed(p)
						j.Open()
					}
				}
				packet.Split(true, apid, count, data, count)
				packet.Split(false, apid, count, data, apid)
			}
		}
	}
	for _, b := range texts {
		packet.Get(b)
		packet.Take(b)
	}
}

// R2: with an error the other results are zero.
func TestRuleErrors(t *testing.T) {
	r := rand.New(rand.NewSource(2))
	errors := map[api.Errno]int{}
	check := func(name string, zero bool, e api.Errno) {
		t.Helper()
		errors[e]++
		if (e == api.OK) == zero {
			t.Fatalf("%s: the error %d, but zero is %v", name, e, zero)
		}
	}
	for range 3000 {
		p := anyPacket(r)
		if r.Intn(2) == 0 {
			p = spoilt(r, p)
		}
		s, e := packet.Put(p)
		check("Put", s == "", e)
		s, e = packet.Idle(r.Intn(2000) - 400)
		check("Idle", s == "", e)
		b := anyBytes(r, r.Intn(10))
		if len(b) > 6 && r.Intn(2) == 0 {
			b = "\x01\x02\x03\x04\x00\x00" + b[6:]
		}
		q, e := packet.Get(b)
		check("Get", q == api.Packet{}, e)
		q, n, e := packet.Take(b)
		check("Take", q == api.Packet{} && n == 0, e)
		l, e := packet.Split(p.Command, p.APID, p.Count, strings.Repeat("a", r.Intn(30000)), 1+r.Intn(1100))
		check("Split", len(l) == 0, e)
		if piece, e := packet.New().Feed(spoilt(r, p)); piece != (api.Piece{}) || e != api.ErrArg {
			t.Fatalf("Feed: %v, %d", piece, e)
		}
	}
	for _, e := range []api.Errno{api.OK, api.ErrArg, api.ErrLong, api.ErrNone, api.ErrForm} {
		if errors[e] < 100 {
			t.Errorf("only these errors: %v", errors)
		}
	}
}

// R3: lists are new memory, and what the caller does with packets does not change the messages of a joiner.
func TestRuleNewResults(t *testing.T) {
	first, second := split(t, 5, 1, "abcde", 2), split(t, 5, 1, "abcde", 2)
	want := slices.Clone(second)
	j := packet.New()
	for i, p := range first[:2] {
		fed(t, j, p)
		first[i] = api.Packet{APID: 5, Data: "zz"}
	}
	_ = append(first[:1], api.Packet{})
	if !slices.Equal(second, want) || !slices.Equal(split(t, 5, 1, "abcde", 2), want) {
		t.Errorf("other packets have become %v", second)
	}
	if piece := fed(t, j, second[2]); piece != whole("abcde") {
		t.Errorf("the message has become %v", piece)
	}
}

// R5: only what New returned is a joiner; the others do nothing, and say so before they look at a packet.
func TestRuleObjects(t *testing.T) {
	j := packet.New()
	packets := split(t, 5, 1, "abc", 2)
	fed(t, j, packets[0])
	double := new(*j)
	for _, other := range []*packet.Joiner{nil, new(packet.Joiner), double} {
		for _, p := range []api.Packet{packets[0], packets[1], {APID: 2047, Data: "a"}, {}, {APID: -1}} {
			if piece, e := other.Feed(p); piece != (api.Piece{}) || e != api.ErrNil || other.Open() != 0 {
				t.Errorf("Feed(%v) = %v, %d, %d open", p, piece, e, other.Open())
			}
		}
	}
	if piece := fed(t, j, packets[1]); j.Open() != 0 || piece != whole("abc") {
		t.Errorf("the joiner itself: %v, %d open", piece, j.Open())
	}
}

// allResults returns what each function returns for a few arguments.
func allResults() string {
	r := rand.New(rand.NewSource(6))
	var l []any
	add := func(results ...any) { l = append(l, results...) }
	j := packet.New()
	for i := range 40 {
		p := anyPacket(r)
		p.APID = i % 3
		s, e := packet.Put(p)
		add(packet.Valid(p), s, e)
		q, e := packet.Get(s)
		add(q, e)
		q, n, e := packet.Take(s[:len(s)-i%2])
		add(q, n, e)
		s, e = packet.Idle(i)
		add(s, e)
		packets, e := packet.Split(i%2 == 0, i, 16000+10*i, s, 5)
		add(packets, e)
		for _, p := range packets {
			piece, e := j.Feed(p)
			add(piece, e, j.Open())
		}
		piece, e := j.Feed(p)
		add(piece, e, j.Open())
	}
	return fmt.Sprintf("%x", l)
}

// R6: results do not depend on earlier calls, nor on calls at the same time.
func TestRuleNoState(t *testing.T) {
	first := allResults()
	for range 20 {
		if again := allResults(); again != first {
			t.Fatalf("first %s, then %s", first, again)
		}
	}
	var wait sync.WaitGroup
	for range 8 {
		wait.Go(func() {
			if again := allResults(); again != first {
				t.Errorf("at the same time %s, not %s", again, first)
			}
		})
	}
	wait.Wait()
}

// R6: joiners that are fed by turns are independent.
func TestRuleIndependent(t *testing.T) {
	r := rand.New(rand.NewSource(66))
	var joiners []*packet.Joiner
	var models []model
	for range 10 {
		joiners = append(joiners, packet.New())
		models = append(models, model{})
	}
	for count := range 500 {
		for i, j := range joiners {
			p := api.Packet{APID: 5 + r.Intn(2), Flags: r.Intn(4), Count: count / 2, Data: fmt.Sprint(i, count)}
			piece := fed(t, j, p)
			if want, _ := models[i].feed(p); piece != want || j.Open() != models[i].opened() {
				t.Fatalf("joiner %d, packet %d: %v, not %v", i, count, piece, want)
			}
		}
	}
}
