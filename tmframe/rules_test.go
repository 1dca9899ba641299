package tmframe_test

import (
	"fmt"
	"math/rand"
	"strings"
	"sync"
	"testing"

	"perigee/api"
	"perigee/tmframe"
)

// R1: every function returns for all arguments.
func TestRuleReturns(t *testing.T) {
	r := rand.New(rand.NewSource(1))
	fillers := []*tmframe.Filler{nil, {}}
	for _, size := range append(noSizes(), 32, 33, 200) {
		f, _ := tmframe.New(size)
		fillers = append(fillers, f)
	}
	texts := []string{"", "\x00", strings.Repeat("\x00", 44), strings.Repeat("\xff", 212), strings.Repeat("\x00", 1<<20), sized(t, r, 7), sized(t, r, 1030), wantIdle(40)}
	for range 5 {
		for _, b := range texts {
			tmframe.Get(b)
			for _, f := range fillers {
				f.Add(b)
				f.Waiting()
				f.Next()
				f.Add(b)
			}
		}
		for _, f := range fillers {
			f.Clear()
			f.Next()
		}
	}
	for _, n := range append(noBytes(), 0, 255) {
		for _, first := range append(noFirsts(), 0, 31, 199, 2046, 2047) {
			for _, data := range texts {
				for _, channel := range append(noChannels(), 0, 7) {
					tmframe.Put(api.TmFrame{Craft: n, Channel: channel, Master: n, Count: n, First: first, Data: data, Word: uint32(n)})
				}
			}
		}
	}
}

// R2: with an error, or without a field, the other results are zero.
func TestRuleErrors(t *testing.T) {
	r := rand.New(rand.NewSource(2))
	errors := map[api.Errno]int{}
	check := func(name string, zero bool, e api.Errno) {
		t.Helper()
		errors[e]++
		if (e == api.OK) == zero {
			t.Fatalf("%s: the error %d, but zero is %v", name, e, zero)
		}
	}
	for range 3000 {
		f := anyFrame(r)
		s := put(t, f)
		if r.Intn(2) == 0 {
			f = spoilt(r, f)
		}
		b, e := tmframe.Put(f)
		check("Put", b == "", e)
		switch r.Intn(4) {
		case 0:
			s = inverted(s, 7+r.Intn(200), 0x8000)
		case 1:
			s = closed("\x80" + s[1:len(s)-2])
		case 2:
			s = s[:r.Intn(44)]
		}
		g, e := tmframe.Get(s)
		check("Get", g == api.TmFrame{}, e)
		size := r.Intn(300) - 20
		filler, e := tmframe.New(size)
		check("New", filler == nil, e)
		if e != api.OK {
			filler = nil
		} else if r.Intn(2) == 0 {
			add(t, filler, sized(t, r, 40))
		}
		if data, first, ok := filler.Next(); !ok && (data != "" || first != 0) || ok && len(data) != size {
			t.Fatalf("Next() = %x, %d, %v", data, first, ok)
		}
	}
	for _, e := range []api.Errno{api.OK, api.ErrArg, api.ErrForm, api.ErrTmSum} {
		if errors[e] < 300 {
			t.Errorf("only these errors: %v", errors)
		}
	}
}

// R3: fields that were returned, and packets that were added, do not change.
func TestRuleNewResults(t *testing.T) {
	r := rand.New(rand.NewSource(3))
	f := newFiller(t, 50)
	var packets, fields, copies []string
	for range 300 {
		p := sized(t, r, anyLength(r))
		packets = append(packets, p)
		add(t, f, strings.Clone(p))
		for range 3 {
			if data, _, ok := f.Next(); ok {
				fields, copies = append(fields, data), append(copies, strings.Clone(data))
			}
		}
	}
	f.Clear()
	for i, data := range fields {
		if data != copies[i] {
			t.Fatalf("field %d has become %x", i, data)
		}
	}
	if len(fields) < 300 || len(packets) != 300 {
		t.Errorf("only %d fields", len(fields))
	}
}

// R5: only what New returned is a filler; the others do nothing, and say so before they look at a packet.
func TestRuleObjects(t *testing.T) {
	r := rand.New(rand.NewSource(5))
	p := sized(t, r, 30)
	f := newFiller(t, 32)
	add(t, f, p, p)
	double := new(*f)
	for _, other := range []*tmframe.Filler{nil, new(tmframe.Filler), double} {
		for _, b := range []string{p, "", "x", wantIdle(7)} {
			if e := other.Add(b); e != api.ErrNil {
				t.Errorf("Add(%x): %d", b, e)
			}
			checkNothing(t, other)
			other.Clear()
		}
	}
	if f.Waiting() != 60 {
		t.Errorf("%d bytes wait", f.Waiting())
	}
	checkNext(t, f, p+p[:2], 0)
	checkNext(t, f, p[2:]+wantIdle(7)[:4], 28)
	checkNothing(t, f)
}

// allResults returns what each function returns for a few arguments: frames, and packets for fillers.
func allResults(frames []api.TmFrame, packets []string) string {
	var l []any
	keep := func(results ...any) { l = append(l, results...) }
	for i, frame := range frames {
		s, e := tmframe.Put(frame)
		keep(s, e)
		g, e := tmframe.Get(s)
		keep(g, e)
		g, e = tmframe.Get(s[1:])
		keep(g, e)
		f, e := tmframe.New(len(frame.Data))
		keep(e)
		for k, p := range packets {
			keep(f.Add(p), f.Waiting())
			for range (i + k) % 4 {
				data, first, ok := f.Next()
				keep(data, first, ok, f.Waiting())
			}
		}
		f.Clear()
		keep(f.Waiting())
	}
	return fmt.Sprintf("%x", l)
}

// R6: results do not depend on earlier calls, nor on calls at the same time.
func TestRuleNoState(t *testing.T) {
	r := rand.New(rand.NewSource(6))
	var frames []api.TmFrame
	var packets []string
	for range 20 {
		frames, packets = append(frames, anyFrame(r)), append(packets, sized(t, r, anyLength(r)))
	}
	first := allResults(frames, packets)
	for range 10 {
		if again := allResults(frames, packets); again != first {
			t.Fatalf("first %s, then %s", first, again)
		}
	}
	var wait sync.WaitGroup
	for range 8 {
		wait.Go(func() {
			if again := allResults(frames, packets); again != first {
				t.Errorf("at the same time %s, not %s", again, first)
			}
		})
	}
	wait.Wait()
}

// R6: fillers that are used by turns are independent.
func TestRuleIndependent(t *testing.T) {
	r := rand.New(rand.NewSource(66))
	var fillers []*tmframe.Filler
	var models []*model
	for i := range 10 {
		size := 32 + i/2
		fillers = append(fillers, newFiller(t, size))
		models = append(models, &model{size: size})
	}
	for range 500 {
		for i, f := range fillers {
			if r.Intn(2) == 0 {
				p := sized(t, r, 7+r.Intn(40))
				add(t, f, p)
				models[i].add(p)
			}
			checkSame(t, f, models[i])
		}
	}
}
