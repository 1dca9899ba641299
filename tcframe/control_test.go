package tcframe_test

import (
	"math/rand"
	"strings"
	"testing"

	"perigee/api"
	"perigee/tcframe"
)

// checkControl fails if Control does not agree with the definition, and tells whether a frame is a control frame of one of the two kinds.
func checkControl(t *testing.T, f api.TcFrame) bool {
	t.Helper()
	unlock, next, ok := tcframe.Control(f)
	if u, n, some := wantControl(f); unlock != u || next != n || ok != some {
		t.Fatalf("Control(%v) = %v, %d, %v, not %v, %d, %v", f, unlock, next, ok, u, n, some)
	}
	return ok
}

func TestP12_3Examples(t *testing.T) {
	set, e := tcframe.SetNext(1, 2, 7)
	if want := (api.TcFrame{Craft: 1, Channel: 2, Bypass: true, Control: true, Data: "\x82\x00\x07"}); set != want || e != api.OK {
		t.Errorf("SetNext(1, 2, 7) = %v, %d", set, e)
	}
	if unlock, next, ok := tcframe.Control(set); unlock || next != 7 || !ok {
		t.Errorf("Control(%v) = %v, %d, %v", set, unlock, next, ok)
	}
	open, e := tcframe.Unlock(1, 2)
	if want := (api.TcFrame{Craft: 1, Channel: 2, Bypass: true, Control: true, Data: "\x00"}); open != want || e != api.OK {
		t.Errorf("Unlock(1, 2) = %v, %d", open, e)
	}
	if unlock, next, ok := tcframe.Control(open); !unlock || next != 0 || !ok {
		t.Errorf("Control(%v) = %v, %d, %v", open, unlock, next, ok)
	}
	for _, data := range []string{"\x00", "\x82\x00\x07"} {
		if unlock, next, ok := tcframe.Control(api.TcFrame{Bypass: true, Data: data}); unlock || next != 0 || ok {
			t.Errorf("Control of a frame with Bypass alone = %v, %d, %v", unlock, next, ok)
		}
	}
}

// All crafts, channels and numbers, and those beside them.
func TestP12_3Numbers(t *testing.T) {
	crafts, channels := append(noBytes(), 0, 1, 128, 254, 255), append(noChannels(), 0, 1, 2, 3, 4, 5, 6, 7)
	nexts := noBytes()
	for n := -2; n < 258; n++ {
		nexts = append(nexts, n)
	}
	for _, craft := range append(crafts, nexts...) {
		for _, channel := range channels {
			f, e := tcframe.Unlock(craft, channel)
			want := api.TcFrame{Craft: craft, Channel: channel, Bypass: true, Control: true, Data: "\x00"}
			checkMade(t, f, e, want, true, 0)
		}
	}
	for _, craft := range crafts {
		for _, channel := range channels {
			for _, next := range nexts {
				f, e := tcframe.SetNext(craft, channel, next)
				if next < 0 || next > 255 {
					if f != (api.TcFrame{}) || e != api.ErrArg {
						t.Fatalf("SetNext(%d, %d, %d) = %v, %d", craft, channel, next, f, e)
					}
					continue
				}
				want := api.TcFrame{Craft: craft, Channel: channel, Bypass: true, Control: true, Data: "\x82\x00" + string([]byte{byte(next)})}
				checkMade(t, f, e, want, false, next)
			}
		}
	}
}

// checkMade fails if a control frame, or its error, is not the one that is wanted, or Control does not see what it says.
func checkMade(t *testing.T, f api.TcFrame, e api.Errno, want api.TcFrame, unlock bool, next int) {
	t.Helper()
	if !wantValid(want) {
		if f != (api.TcFrame{}) || e != api.ErrArg {
			t.Fatalf("%v, %d, but %v is not valid", f, e, want)
		}
		return
	}
	if f != want || e != api.OK {
		t.Fatalf("%v, %d, not %v", f, e, want)
	}
	if u, n, ok := tcframe.Control(f); u != unlock || n != next || !ok {
		t.Fatalf("Control(%v) = %v, %d, %v", f, u, n, ok)
	}
}

// The Seq of a control frame does not matter, if it is one; nor do craft and channel.
func TestP12_3Others(t *testing.T) {
	for _, data := range []string{"\x00", "\x82\x00\x00", "\x82\x00\xff"} {
		for seq := -2; seq < 258; seq++ {
			f := api.TcFrame{Craft: 255 - max(0, seq-3), Channel: seq & 7, Bypass: true, Control: true, Seq: seq, Data: data}
			if ok := checkControl(t, f); ok != (seq >= 0 && seq <= 255) {
				t.Fatalf("Control(%v): %v", f, ok)
			}
		}
	}
}

// All data of one byte, those of up to five bytes that are nearly control data, and others.
func TestP12_3Data(t *testing.T) {
	r := rand.New(rand.NewSource(123))
	n := 0
	check := func(data string) {
		t.Helper()
		for flags := range 4 {
			f := api.TcFrame{Craft: r.Intn(256), Channel: r.Intn(8), Bypass: flags&1 != 0, Control: flags&2 != 0, Seq: r.Intn(256), Data: data}
			if checkControl(t, f) {
				n++
			}
		}
	}
	check("")
	for a := range 256 {
		check(string([]byte{byte(a)}))
		check(string([]byte{byte(a), 0}))
		check(string([]byte{0, byte(a)}))
		check(string([]byte{130, byte(a)}))
		check(string([]byte{130, 0, 7, byte(a)}))
		check(string([]byte{130, 0, byte(a), 0, 0}))
		for b := range 256 {
			check(string([]byte{byte(a), byte(b), 9}))
			check(string([]byte{130, byte(a), byte(b)}))
		}
	}
	for _, size := range []int{199, 200, 201} {
		check(strings.Repeat("\x00", size))
		check("\x82\x00\x07" + strings.Repeat("\x00", size-3))
	}
	// One unlock frame; with the number 9, and with each number.
	if n != 1+1+256 {
		t.Errorf("%d control frames", n)
	}
}

// What is no valid frame says nothing.
func TestP12_3Invalid(t *testing.T) {
	r := rand.New(rand.NewSource(1230))
	for range 2000 {
		f, _ := tcframe.Unlock(r.Intn(256), r.Intn(8))
		if r.Intn(2) == 0 {
			f, _ = tcframe.SetNext(r.Intn(256), r.Intn(8), r.Intn(256))
		}
		if !checkControl(t, f) {
			t.Fatalf("Control(%v)", f)
		}
		if bad := spoilt(r, f); checkControl(t, bad) {
			t.Fatalf("Control(%v)", bad)
		}
		checkControl(t, anyFrame(r))
	}
}

// A control frame is a frame like others: it comes through Put and Get.
func TestP12_3Frames(t *testing.T) {
	for n := range 256 {
		f, _ := tcframe.SetNext(n, n%8, n)
		checkFrame(t, f)
		f, _ = tcframe.Unlock(n, n%8)
		checkFrame(t, f)
	}
}
