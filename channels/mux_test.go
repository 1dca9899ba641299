package channels_test

import (
	"math/rand"
	"slices"
	"strings"
	"testing"

	"perigee/api"
	"perigee/channels"
)

// checkNewMux fails if NewMux accepts what it has to refuse, or the other way round.
func checkNewMux(t *testing.T, craft, size int, priority, share list, ok bool) {
	t.Helper()
	m, e := channels.NewMux(craft, size, priority, share)
	if !ok {
		if m != nil || e != api.ErrArg {
			t.Fatalf("NewMux(%d, %d, %v, %v): %v, %d", craft, size, priority, share, m, e)
		}
		return
	}
	if m == nil || e != api.OK {
		t.Fatalf("NewMux(%d, %d, %v, %v): %v, %d", craft, size, priority, share, m, e)
	}
	model := newMuxModel(craft, size, priority, share)
	checkWaiting(t, m, model)
	checkNext(t, m, model, 0)
}

// All crafts and sizes, and numbers that are none.
func TestP11_1NewMux(t *testing.T) {
	for craft := -300; craft < 600; craft++ {
		checkNewMux(t, craft, 32, same(0), same(1), craft >= 0 && craft <= 255)
		checkNewMux(t, craft, 200, same(7), same(100), craft >= 0 && craft <= 255)
	}
	for size := -300; size < 600; size++ {
		checkNewMux(t, 0, size, same(0), same(1), size >= 32 && size <= 200)
		checkNewMux(t, 255, size, same(7), same(100), size >= 32 && size <= 200)
	}
	for _, craft := range noBytes() {
		checkNewMux(t, craft, 32, same(0), same(1), false)
		for _, size := range noSizes() {
			checkNewMux(t, 1, size, same(0), same(1), false)
			checkNewMux(t, craft, size, same(0), same(1), false)
		}
	}
}

// All priorities and shares of each channel, and numbers that are none.
func TestP11_1NewMuxLists(t *testing.T) {
	r := rand.New(rand.NewSource(1110))
	check := func(c, n int) {
		t.Helper()
		priority, share := anyList(r, 0, 7), anyList(r, 1, 100)
		other := priority
		other[c] = n
		checkNewMux(t, 3, 40, other, share, n >= 0 && n <= 7)
		other = share
		other[c] = n
		checkNewMux(t, 3, 40, priority, other, n >= 1 && n <= 100)
	}
	for c := range 8 {
		for n := -20; n < 300; n++ {
			check(c, n)
		}
		for _, n := range append(noPriorities(), noShares()...) {
			check(c, n)
		}
	}
}

// Add returns what the filler of the channel returns, and nothing changes in the others.
func TestP11_1Add(t *testing.T) {
	r := rand.New(rand.NewSource(1111))
	m, model := newMux(t, 1, 40, same(0), same(1)), newMuxModel(1, 40, same(0), same(1))
	seen := map[api.Errno]int{}
	for range 8000 {
		c, p := r.Intn(8), sized(r, anyLength(r))
		switch r.Intn(8) {
		case 0:
			p = idle(anyLength(r))
		case 1:
			p = p[1:]
		case 2:
			p += "x"
		}
		want := model.fillers[c].Add(p)
		if e := m.Add(c, p); e != want {
			t.Fatalf("Add(%d, %.20x): %d, not %d", c, p, e, want)
		}
		seen[want]++
		checkWaiting(t, m, model)
	}
	for _, e := range []api.Errno{api.OK, api.ErrForm, api.ErrFull} {
		if seen[e] < 100 {
			t.Errorf("only these errors: %v", seen)
		}
	}
	for range 500 {
		checkNext(t, m, model, 0)
	}
}

// There are eight channels; a channel is looked at before a packet.
func TestP11_1Channels(t *testing.T) {
	r := rand.New(rand.NewSource(1112))
	p := sized(r, 20)
	m := newMux(t, 1, 32, same(0), same(1))
	for c := range 8 {
		if n := m.Waiting(c); n != 0 {
			t.Errorf("%d bytes wait in the channel %d", n, c)
		}
		for range c + 1 {
			add(t, m, c, p)
		}
	}
	check := func(c int) {
		t.Helper()
		for _, b := range []string{p, "", "x", idle(7), strings.Repeat("\x00", 70000)} {
			if e := m.Add(c, b); e != api.ErrArg {
				t.Errorf("Add(%d, %.20x): %d", c, b, e)
			}
		}
		if n := m.Waiting(c); n != 0 {
			t.Errorf("%d bytes wait in the channel %d", n, c)
		}
	}
	for _, c := range noChannels() {
		check(c)
	}
	for c := 8; c < 300; c++ {
		check(c)
		check(-c)
	}
	for c := range 8 {
		if n := m.Waiting(c); n != 20*(c+1) {
			t.Errorf("%d bytes wait in the channel %d", n, c)
		}
	}
}

// As many bytes may wait in each channel as in a filler.
func TestP11_1Full(t *testing.T) {
	r := rand.New(rand.NewSource(1113))
	m := newMux(t, 1, 200, same(0), same(1))
	p := sized(r, 1024)
	for c := range 8 {
		for range 64 {
			add(t, m, c, p)
		}
		if e := m.Add(c, sized(r, 7)); e != api.ErrFull || m.Waiting(c) != 65536 {
			t.Fatalf("Add to a full channel: %d, %d bytes wait", e, m.Waiting(c))
		}
		if e := m.Add(c, "x"); e != api.ErrForm {
			t.Fatalf("Add of what is no packet to a full channel: %d", e)
		}
	}
	m.Clear()
	add(t, m, 5, p)
	if n := m.Waiting(5); n != 1024 {
		t.Errorf("%d bytes wait", n)
	}
}

// After Clear everything is as in a new mux: fillers with their idle rests, all counts and credits; priorities and shares stay.
func TestP11_1Clear(t *testing.T) {
	r := rand.New(rand.NewSource(1114))
	for range 300 {
		size, priority, share := anySize(r), anyList(r, 0, 2), anyList(r, 1, 9)
		m := newMux(t, 9, size, priority, share)
		model := newMuxModel(9, size, priority, share)
		for range 3 {
			for range r.Intn(100) {
				add(t, m, r.Intn(8), sized(r, 7+r.Intn(2*size)))
				next(t, m, 0)
			}
			m.Clear()
			model.clear()
			checkWaiting(t, m, model)
			for range 60 {
				c, p := r.Intn(8), sized(r, 7+r.Intn(2*size))
				add(t, m, c, p)
				model.fillers[c].Add(p)
				checkNext(t, m, model, 0)
			}
		}
	}
}

// Clear alone sets the count of an idle mux to 0, too.
func TestP11_1ClearIdle(t *testing.T) {
	m := newMux(t, 1, 32, same(0), same(1))
	for n := range 10 {
		for i := range n {
			if f, _ := next(t, m, 0); f.Master != i || f.Count != i {
				t.Fatalf("frame %d: Master %d, Count %d", i, f.Master, f.Count)
			}
		}
		m.Clear()
	}
}

func TestP11_2Examples(t *testing.T) {
	share := list{2, 1, 1, 1, 1, 1, 1, 1}
	m := newMux(t, 1, 32, same(0), share)
	f, s := next(t, m, 9)
	if f.Channel != 7 || f.Master != 0 || f.Count != 0 || f.First != 2046 || f.Word != 9 || len(s) != 44 {
		t.Errorf("an idle frame: %v", f)
	}
	r := rand.New(rand.NewSource(112))
	long, short := sized(r, 70), sized(r, 40)
	add(t, m, 0, long)
	add(t, m, 1, short)
	if e := m.Add(8, short); e != api.ErrArg {
		t.Errorf("Add to the channel 8: %d", e)
	}
	firsts := [6]int{0, 2047, 0, 6, 8, 2046}
	for i, channel := range [6]int{0, 0, 1, 0, 1, 7} {
		f, _ := next(t, m, 0)
		if f.Channel != channel || f.First != firsts[i] || f.Master != i+1 {
			t.Errorf("frame %d: %v", i, f)
		}
	}
}

// An idle frame is one of bytes 85 of the channel 7, of all sizes and with all bits of a word.
func TestP11_2Idle(t *testing.T) {
	for size := 32; size <= 200; size++ {
		m := newMux(t, size, size, same(size%8), same(1+size%100))
		for i := range 40 {
			want := api.TmFrame{Craft: size, Channel: 7, Master: i, Count: i, First: 2046, Data: strings.Repeat("\x55", size), Word: 1 << (i % 32)}
			if s, e := m.Next(want.Word); s != put(want) || e != api.OK {
				t.Fatalf("frame %d: %x, %d, not %x", i, s, e, put(want))
			}
		}
	}
}

// The master count and the counts of the channels are modulo 256, and idle frames are frames of the channel 7.
func TestP11_2Counts(t *testing.T) {
	r := rand.New(rand.NewSource(1121))
	m := newMux(t, 1, 32, same(3), same(1))
	var counts list
	for i := range 5000 {
		c := []int{7, 0, 3, -1, 7, -1}[r.Intn(6)]
		if c >= 0 {
			add(t, m, c, sized(r, 32))
		}
		f, _ := next(t, m, uint32(i))
		c = max(c, -c*7)
		if f.Channel != c || f.Master != i%256 || f.Count != counts[c]%256 || f.Word != uint32(i) || f.Craft != 1 {
			t.Fatalf("frame %d: %v", i, f)
		}
		counts[c]++
	}
}

// Idle frames do not use up credit, and leave an idle rest of the channel 7 where it is.
func TestP11_2IdleBetween(t *testing.T) {
	r := rand.New(rand.NewSource(1122))
	for missing := 1; missing <= 6; missing++ {
		m := newMux(t, 1, 32, same(0), same(2))
		p := sized(r, 32-missing)
		add(t, m, 7, p)
		if f, _ := next(t, m, 0); f.Data != p+idle(7)[:missing] || f.First != 0 {
			t.Fatalf("the first frame: %v", f)
		}
		for range 5 {
			if f, _ := next(t, m, 0); f.First != 2046 || f.Channel != 7 || f.Data != strings.Repeat("U", 32) {
				t.Fatalf("an idle frame: %v", f)
			}
		}
		add(t, m, 7, sized(r, 64))
		add(t, m, 3, sized(r, 64))
		// The channel 7 has a credit of 1 left, the others have one of 2.
		for i, c := range []int{3, 3, 7, 7} {
			f, _ := next(t, m, 0)
			if f.Channel != c || i == 2 && (f.Data[:7-missing] != idle(7)[missing:] || f.First != 7-missing) {
				t.Fatalf("frame %d: %v", i, f)
			}
		}
	}
}

// A channel with a whole field comes before one with less, whatever the priorities.
func TestP11_2Candidates(t *testing.T) {
	r := rand.New(rand.NewSource(1123))
	for _, size := range []int{32, 33, 100, 200} {
		for less := 7; less < size; less++ {
			m := newMux(t, 1, size, list{0, 7, 1, 7, 6, 7, 5, 7}, same(1))
			add(t, m, 2, sized(r, size))
			for _, c := range []int{0, 1, 3, 5, 7} {
				add(t, m, c, sized(r, less))
			}
			for i, c := range []int{2, 1, 3, 5, 7, 0, 7} {
				f, _ := next(t, m, 0)
				if f.Channel != c || (f.First == 2046) != (i == 6) {
					t.Fatalf("size %d, frame %d with %d bytes: %v", size, i, less, f)
				}
			}
		}
	}
}

// The idle rest of a channel does not count as waiting.
func TestP11_2RestWaits(t *testing.T) {
	r := rand.New(rand.NewSource(1124))
	m := newMux(t, 1, 32, list{7}, same(1))
	add(t, m, 0, sized(r, 31))
	next(t, m, 0)
	add(t, m, 0, sized(r, 31))
	add(t, m, 1, sized(r, 32))
	for i, c := range []int{1, 0, 0, 7} {
		if f, _ := next(t, m, 0); f.Channel != c {
			t.Fatalf("frame %d: %v", i, f)
		}
	}
}

// Of the candidates those with the greatest priority come first, whatever the credits.
func TestP11_2Priority(t *testing.T) {
	r := rand.New(rand.NewSource(1125))
	for range 200 {
		var priority list
		for c, p := range r.Perm(8) {
			priority[c] = p
		}
		m := newMux(t, 1, 50, priority, anyList(r, 1, 100))
		var want, got []int
		for c := range 8 {
			for range 1 + r.Intn(150) {
				add(t, m, c, sized(r, 50))
				want = append(want, c)
			}
		}
		slices.SortFunc(want, func(a, b int) int { return priority[b] - priority[a] })
		for range want {
			f, _ := next(t, m, 0)
			got = append(got, f.Channel)
		}
		if !slices.Equal(got, want) {
			t.Fatalf("priorities %v: %v, not %v", priority, got, want)
		}
	}
}

// channelsOf returns the channels of the next frames.
func channelsOf(t *testing.T, m *channels.Mux, n int) []int {
	t.Helper()
	var l []int
	for range n {
		f, _ := next(t, m, 0)
		l = append(l, f.Channel)
	}
	return l
}

// The credits of all channels with the priority become their shares, also of those that are no candidates, and only of these.
func TestP11_2Credits(t *testing.T) {
	r := rand.New(rand.NewSource(1126))
	check := func(m *channels.Mux, want ...int) {
		t.Helper()
		if got := channelsOf(t, m, len(want)); !slices.Equal(got, want) {
			t.Fatalf("the channels %v, not %v", got, want)
		}
	}
	fields := func(m *channels.Mux, c, n int) {
		for range n {
			add(t, m, c, sized(r, 40))
		}
	}
	m := newMux(t, 1, 40, list{1, 1, 1, 0, 0}, list{3, 2, 5, 4, 1, 1, 1, 1})
	fields(m, 0, 4)
	// The channel 0 uses 3 up and gets 3 again; 1 and 2, which are no candidates, get 2 and 5.
	check(m, 0, 0, 0, 0)
	fields(m, 0, 9)
	fields(m, 1, 9)
	// 0 and 1 have 2 left each; when they have none, they get 3 and 2.
	check(m, 0, 1, 0, 1, 0, 0, 1, 0, 1)
	fields(m, 2, 6)
	// 0 and 1 have none left, 2 has 5; when that is used up, all get their shares.
	check(m, 2, 2, 2, 2, 2, 2)
	fields(m, 2, 2)
	check(m, 2, 0, 2, 0, 1, 0, 1)
	// A priority in between changes no credit of another one.
	m.Clear()
	fields(m, 3, 6)
	check(m, 3, 3)
	fields(m, 1, 5)
	check(m, 1, 1, 1, 1, 1)
	fields(m, 4, 3)
	check(m, 3, 3, 4, 3, 3, 4, 4)
}

// Of channels with the same credit the one with the least number is chosen.
func TestP11_2Ties(t *testing.T) {
	r := rand.New(rand.NewSource(1127))
	for share := 1; share <= 3; share++ {
		m := newMux(t, 1, 32, same(5), same(share))
		for _, c := range r.Perm(8) {
			for range 2 * share {
				add(t, m, c, sized(r, 32))
			}
		}
		for i := range 2 * share {
			if got := channelsOf(t, m, 8); !slices.Equal(got, []int{0, 1, 2, 3, 4, 5, 6, 7}) {
				t.Fatalf("share %d, round %d: %v", share, i, got)
			}
		}
	}
}

// Calls in any order, with many and with few priorities.
func TestP11_2Random(t *testing.T) {
	r := rand.New(rand.NewSource(1128))
	for i := range 400 {
		craft, size, priority, share := r.Intn(256), anySize(r), anyList(r, 0, i%8), anyList(r, 1, []int{2, 5, 100}[i%3])
		m, model := newMux(t, craft, size, priority, share), newMuxModel(craft, size, priority, share)
		busy := 1 + r.Intn(60)
		for range 400 {
			switch k := r.Intn(100); {
			case k < busy:
				c, p := r.Intn(8), sized(r, anyLength(r))
				want := model.fillers[c].Add(p)
				if e := m.Add(c, p); e != want {
					t.Fatalf("Add(%d, %.20x): %d, not %d", c, p, e, want)
				}
			case k == 99 && r.Intn(20) == 0:
				m.Clear()
				model.clear()
				checkWaiting(t, m, model)
			default:
				checkNext(t, m, model, r.Uint32())
			}
		}
	}
}

// The bytes of a packet are in the frame as they were added.
func TestP11_2Data(t *testing.T) {
	r := rand.New(rand.NewSource(1129))
	m := newMux(t, 1, 100, same(0), same(1))
	for range 500 {
		p := sized(r, 7+r.Intn(94))
		add(t, m, 2, p)
		f, _ := next(t, m, 0)
		want := p
		if n := 100 - len(p); n > 0 {
			want += idle(max(n, 7))[:n]
		}
		if f.Data != want || f.First != 0 {
			t.Fatalf("the frame of %x: %v", p, f)
		}
		// An idle rest is dropped.
		m.Clear()
	}
}
