package channels_test

import (
	"fmt"
	"math/rand"
	"slices"
	"strings"
	"sync"
	"testing"
	"unsafe"

	"perigee/api"
	"perigee/channels"
)

// R1: every function returns for all arguments.
func TestRuleReturns(t *testing.T) {
	r := rand.New(rand.NewSource(1))
	muxes, demuxes := []*channels.Mux{nil, {}}, []*channels.Demux{nil, {}}
	for _, n := range append(noBytes(), 0, 255) {
		for _, size := range append(noSizes(), 32, 200) {
			m, _ := channels.NewMux(n, size, same(3), same(3))
			d, _ := channels.NewDemux(n, size)
			if m != nil {
				muxes = append(muxes, m)
			}
			if d != nil {
				demuxes = append(demuxes, d)
			}
		}
		channels.NewMux(1, 32, same(n), same(1))
		channels.NewMux(1, 32, same(1), same(n))
	}
	texts := []string{"", "\x00", strings.Repeat("\x00", 44), strings.Repeat("\xff", 212), strings.Repeat("\x00", 1<<20), sized(r, 7), sized(r, 1030), idle(40)}
	for range 3 {
		for _, m := range muxes {
			for _, b := range texts {
				for _, c := range append(noChannels(), 0, 3, 7) {
					m.Add(c, b)
					m.Waiting(c)
				}
				for _, d := range demuxes {
					d.Feed(b)
					s, _ := m.Next(0xffffffff)
					d.Feed(s)
				}
			}
			m.Clear()
			m.Next(0)
		}
	}
}

// R2 and R8: with an error, or for a doubled frame, the other results are zero.
func TestRuleErrors(t *testing.T) {
	r := rand.New(rand.NewSource(2))
	seen := map[api.Errno]int{}
	m, d := newMux(t, 1, 40, same(0), same(1)), newDemux(t, 1, 40)
	for range 5000 {
		if r.Intn(2) == 0 {
			m.Add(r.Intn(8), sized(r, anyLength(r)))
		}
		_, s := next(t, m, 5)
		f := s
		switch r.Intn(8) {
		case 0:
			f = inverted(s, r.Intn(8*len(s)))
		case 1:
			f = s[:r.Intn(44)]
		case 2:
			f = put(api.TmFrame{Craft: 2, Master: 7, Count: 7, Data: s[6:46]})
		}
		a, e := d.Feed(f)
		seen[e]++
		if e != api.OK && shown(a) != shown(api.Arrival{}) {
			t.Fatalf("Feed: %s, %d", shown(a), e)
		}
		d.Feed(s)
		if a, e := d.Feed(s); e != api.OK || shown(a) != shown(api.Arrival{Channel: a.Channel, Doubled: true, Word: 5}) {
			t.Fatalf("Feed: %s, %d", shown(a), e)
		}
	}
	for _, e := range []api.Errno{api.OK, api.ErrArg, api.ErrForm, api.ErrTmSum} {
		if seen[e] < 300 {
			t.Errorf("only these errors: %v", seen)
		}
	}
}

// overlap tells whether two strings share memory.
func overlap(a, b string) bool {
	from, to := uintptr(unsafe.Pointer(unsafe.StringData(a))), uintptr(unsafe.Pointer(unsafe.StringData(b)))
	return a != "" && b != "" && from < to+uintptr(len(b)) && to < from+uintptr(len(a))
}

// R3: packets that arrive share no memory with the frame, nor with each other.
func TestRuleNewMemory(t *testing.T) {
	r := rand.New(rand.NewSource(3))
	m, d := newMux(t, 1, 200, same(0), same(1)), newDemux(t, 1, 200)
	var all []string
	for range 50 {
		for range 5 {
			add(t, m, 0, sized(r, 7+r.Intn(50)))
		}
		_, s := next(t, m, 0)
		a, _ := d.Feed(s)
		all = append(all, s)
		all = append(all, a.Packets...)
	}
	if len(all) < 100 {
		t.Fatalf("only %d packets", len(all)-50)
	}
	for i, a := range all {
		for _, b := range all[:i] {
			if overlap(a, b) {
				t.Fatalf("%x and %x share memory", a, b)
			}
		}
	}
}

// R3: arguments are not kept: when the memory of a packet or of a frame changes, nothing else does.
func TestRuleKept(t *testing.T) {
	r := rand.New(rand.NewSource(33))
	m, model := newMux(t, 1, 60, same(0), same(1)), newMuxModel(1, 60, same(0), same(1))
	d, demux := newDemux(t, 1, 60), newDemuxModel(1, 60)
	for range 500 {
		p := []byte(sized(r, anyLength(r)))
		model.fillers[2].Add(string(p))
		if e := m.Add(2, unsafe.String(&p[0], len(p))); e != api.OK {
			t.Fatal(e)
		}
		clear(p)
		for r.Intn(4) > 0 {
			s := put(model.next(9))
			frame, e := m.Next(9)
			if frame != s || e != api.OK {
				t.Fatalf("Next(9) = %x, %d, not %x", frame, e, s)
			}
			b := []byte(s)
			want, _ := demux.feed(s)
			a, e := d.Feed(unsafe.String(&b[0], len(b)))
			clear(b)
			if shown(a) != shown(want) || e != api.OK {
				t.Fatalf("Feed(%x) = %s, %d, not %s", s, shown(a), e, shown(want))
			}
			clear(a.Packets)
			checkSame(t, d, demux, s)
		}
	}
}

// R5: only what NewMux and NewDemux returned are objects; others do nothing, and say so before they look at an argument.
func TestRuleObjects(t *testing.T) {
	r := rand.New(rand.NewSource(5))
	p := sized(r, 48)
	m, d := newMux(t, 1, 32, same(0), same(1)), newDemux(t, 1, 32)
	add(t, m, 3, p)
	for _, other := range []*channels.Mux{nil, new(channels.Mux), new(*m)} {
		for _, b := range []string{p, "", "x", idle(7)} {
			for _, c := range []int{3, 0, 8, -1} {
				if e := other.Add(c, b); e != api.ErrNil || other.Waiting(c) != 0 {
					t.Errorf("Add(%d, %x): %d, %d bytes wait", c, b, e, other.Waiting(c))
				}
			}
		}
		if s, e := other.Next(3); s != "" || e != api.ErrNil {
			t.Errorf("Next: %x, %d", s, e)
		}
		other.Clear()
		if s, e := other.Next(3); s != "" || e != api.ErrNil {
			t.Errorf("Next: %x, %d", s, e)
		}
	}
	var frames []string
	for range 2 {
		f, s := next(t, m, 3)
		if f.Channel != 3 || f.Count != len(frames) {
			t.Fatalf("the next frame: %v", f)
		}
		frames = append(frames, s)
	}
	checkFeed(t, d, frames[0], api.Arrival{Channel: 3, Word: 3}, api.OK)
	for _, other := range []*channels.Demux{nil, new(channels.Demux), new(*d)} {
		for _, s := range []string{frames[0], frames[1], "", p} {
			checkFeed(t, other, s, api.Arrival{}, api.ErrNil)
		}
	}
	checkFeed(t, d, frames[1], api.Arrival{Channel: 3, Word: 3, Packets: []string{p}}, api.OK)
}

// allResults returns what each function returns for a few arguments.
func allResults(packets []string) string {
	var l []any
	keep := func(results ...any) { l = append(l, results...) }
	m, e := channels.NewMux(1, 50, list{1, 1, 0, 0}, list{1, 2, 3, 1, 1, 2, 3, 4})
	d, f := channels.NewDemux(1, 50)
	keep(e, f)
	for i, p := range packets {
		keep(m.Add(i%9, p), m.Waiting(i%9))
		for k := range i % 4 {
			s, e := m.Next(uint32(i))
			keep(s, e)
			for range 1 + k%2 {
				a, e := d.Feed(s)
				keep(shown(a), e)
			}
		}
	}
	m.Clear()
	keep(m.Waiting(0))
	return fmt.Sprint(l)
}

// R6: results do not depend on earlier calls, nor on calls at the same time.
func TestRuleNoState(t *testing.T) {
	r := rand.New(rand.NewSource(6))
	var packets []string
	for range 100 {
		packets = append(packets, sized(r, anyLength(r)))
	}
	first := allResults(packets)
	for range 10 {
		if again := allResults(packets); again != first {
			t.Fatalf("first %s, then %s", first, again)
		}
	}
	var wait sync.WaitGroup
	for range 8 {
		wait.Go(func() {
			if again := allResults(packets); again != first {
				t.Errorf("at the same time %s, not %s", again, first)
			}
		})
	}
	wait.Wait()
}

// R6: objects that are used by turns are independent.
func TestRuleIndependent(t *testing.T) {
	r := rand.New(rand.NewSource(66))
	muxes, demuxes := make([]*channels.Mux, 10), make([]*channels.Demux, 10)
	models, others := make([]*muxModel, 10), make([]*demuxModel, 10)
	for i := range 10 {
		size, share := 32+i/2, anyList(r, 1, 5)
		muxes[i], models[i] = newMux(t, 1, size, same(0), share), newMuxModel(1, size, same(0), share)
		demuxes[i], others[i] = newDemux(t, 1, size), newDemuxModel(1, size)
	}
	for range 300 {
		for i, m := range muxes {
			for range 2 {
				c, p := r.Intn(8), sized(r, 7+r.Intn(40))
				add(t, m, c, p)
				models[i].fillers[c].Add(p)
			}
			s := put(checkNext(t, m, models[i], 0))
			for k := range demuxes {
				if r.Intn(4) == 0 || k == i {
					checkSame(t, demuxes[k], others[k], s)
				}
			}
		}
	}
}

// The lists that are handed over are not changed.
func TestRuleArguments(t *testing.T) {
	priority, share := list{1, 2, 3, 4, 5, 6, 7, 0}, list{8, 7, 6, 5, 4, 3, 2, 1}
	m := newMux(t, 1, 32, priority, share)
	r := rand.New(rand.NewSource(7))
	for c := range 8 {
		add(t, m, c, sized(r, 64))
	}
	channelsOf(t, m, 16)
	if !slices.Equal(priority[:], []int{1, 2, 3, 4, 5, 6, 7, 0}) || !slices.Equal(share[:], []int{8, 7, 6, 5, 4, 3, 2, 1}) {
		t.Errorf("%v, %v", priority, share)
	}
}
