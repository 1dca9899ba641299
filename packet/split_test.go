package packet_test

import (
	"math"
	"math/rand"
	"slices"
	"strings"
	"testing"

	"perigee/api"
	"perigee/packet"
)

// checkSplit fails if Split does not agree with the definition.
func checkSplit(t *testing.T, command bool, apid, count int, message string, most int) {
	t.Helper()
	l, e := packet.Split(command, apid, count, message, most)
	if want, f := wantSplit(command, apid, count, message, most); !slices.Equal(l, want) || e != f {
		t.Fatalf("Split(%v, %d, %d, %d bytes, %d): %d packets, %d, not %d packets, %d", command, apid, count, len(message), most, len(l), e, len(want), f)
	}
}

func TestP9_4Example(t *testing.T) {
	want := []api.Packet{
		{APID: 5, Flags: api.SfFirst, Count: 16383, Data: "ab"},
		{APID: 5, Flags: api.SfMiddle, Count: 0, Data: "cd"},
		{APID: 5, Flags: api.SfLast, Count: 1, Data: "e"},
	}
	if l := split(t, 5, 16383, "abcde", 2); !slices.Equal(l, want) {
		t.Errorf("%v", l)
	}
	want = []api.Packet{{Command: true, APID: 0, Flags: api.SfOnly, Count: 7, Data: "abcde"}}
	if l, e := packet.Split(true, 0, 7, "abcde", 5); !slices.Equal(l, want) || e != api.OK {
		t.Errorf("%v, %d", l, e)
	}
	want = []api.Packet{{APID: 2046, Flags: api.SfFirst, Count: 0, Data: "ab"}, {APID: 2046, Flags: api.SfLast, Count: 1, Data: "cd"}}
	if l := split(t, 2046, 0, "abcd", 2); !slices.Equal(l, want) {
		t.Errorf("%v", l)
	}
}

// All lengths and sizes of short messages.
func TestP9_4Short(t *testing.T) {
	r := rand.New(rand.NewSource(94))
	for n := 1; n < 40; n++ {
		for most := 1; most < 45; most++ {
			checkSplit(t, n%2 == 0, r.Intn(2047), r.Intn(16384), anyBytes(r, n), most)
		}
	}
}

// The limits of messages and of packets.
func TestP9_4Long(t *testing.T) {
	r := rand.New(rand.NewSource(940))
	for _, n := range []int{255, 256, 1023, 1024, 1025, 2047, 2048, 2049, 16383, 16384, 16385, 16386, 1 << 16} {
		message := anyBytes(r, n)
		for _, most := range []int{0, 1, 2, 7, 255, 256, 512, 1000, 1023, 1024, 1025} {
			checkSplit(t, true, 2046, 16383, message, most)
			checkSplit(t, false, 0, 0, message, most)
		}
	}
	if l := split(t, 3, 5, strings.Repeat("a", 16384), 1); len(l) != 16384 || l[16383].Count != 4 || l[16383].Flags != api.SfLast {
		t.Errorf("%d packets", len(l))
	}
	if l := split(t, 3, 5, strings.Repeat("a", 16384), 1024); len(l) != 16 || len(l[15].Data) != 1024 {
		t.Errorf("%d packets", len(l))
	}
}

// All APIDs and counts, and those beside them.
func TestP9_4Numbers(t *testing.T) {
	for apid := -2; apid < 2050; apid++ {
		checkSplit(t, false, apid, 9, "abc", 2)
	}
	for count := -2; count < 16387; count++ {
		checkSplit(t, true, 9, count, "abcde", 2)
	}
	for most := -2; most < 1028; most++ {
		checkSplit(t, true, 9, 9, strings.Repeat("a", 1024), most)
	}
}

// Each argument that is not valid is refused, and before a message that is too long.
func TestP9_4Refused(t *testing.T) {
	refused := func(apid, count int, message string, most int, want api.Errno) {
		t.Helper()
		for _, command := range []bool{false, true} {
			if l, e := packet.Split(command, apid, count, message, most); len(l) != 0 || e != want {
				t.Errorf("Split(%v, %d, %d, %d bytes, %d): %d packets, %d", command, apid, count, len(message), most, len(l), e)
			}
		}
	}
	for _, message := range []string{"a", strings.Repeat("a", 16384), strings.Repeat("a", 16385)} {
		for _, apid := range append(noAPIDs(), 2047) {
			refused(apid, 1, message, 1, api.ErrArg)
		}
		for _, count := range noCounts() {
			refused(1, count, message, 1, api.ErrArg)
		}
		for _, most := range append(noSizes(), -1, -1024, 1<<32, math.MinInt, math.MaxInt) {
			refused(1, 1, message, most, api.ErrArg)
		}
	}
	refused(1, 1, "", 1, api.ErrArg)
	for _, n := range []int{16385, 16386, 1 << 16, 1 << 20} {
		refused(1, 1, strings.Repeat("a", n), 1024, api.ErrLong)
	}
}
