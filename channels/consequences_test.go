package channels_test

import (
	"fmt"
	"math/rand"
	"slices"
	"testing"

	"perigee/api"
	"perigee/channels"
)

// span is a range of bytes among all that were added to a channel.
type span struct{ from, to int }

// meets tells whether two ranges have a byte in common.
func (s span) meets(o span) bool { return max(s.from, o.from) < min(s.to, o.to) }

// sent is a frame that a mux has made, and which bytes of its channel it contains.
type sent struct {
	channel, number int
	frame           string
	span
}

// source is a mux, with what was added to its channels and sent.
type source struct {
	*channels.Mux
	packets [8][]string
	spans   [8][]span
	added   list
	frames  [8]int
}

// add adds a packet to a channel, if there is room.
func (s *source) add(t *testing.T, channel int, p string) {
	t.Helper()
	if e := s.Add(channel, p); e == api.ErrFull {
		return
	} else if e != api.OK {
		t.Fatalf("Add(%d, %.20x): %d", channel, p, e)
	}
	from := s.added[channel]
	s.added[channel] += len(p)
	s.packets[channel] = append(s.packets[channel], p)
	s.spans[channel] = append(s.spans[channel], span{from, s.added[channel]})
}

// gone returns how many bytes of a channel have been sent.
func (s *source) gone(channel int) int { return s.added[channel] - s.Waiting(channel) }

// next returns the next frame.
func (s *source) next(t *testing.T, word uint32) sent {
	t.Helper()
	var before list
	for c := range before {
		before[c] = s.gone(c)
	}
	f, frame := next(t, s.Mux, word)
	c := f.Channel
	n := s.frames[c]
	s.frames[c]++
	return sent{c, n, frame, span{before[c], s.gone(c)}}
}

// waiting tells whether something waits in a channel.
func (s *source) waiting() bool {
	for c := range 8 {
		if s.Waiting(c) > 0 {
			return true
		}
	}
	return false
}

// anySource returns a source with any priorities and shares, and the size of its data fields.
func anySource(t *testing.T, r *rand.Rand, craft int) (*source, int) {
	t.Helper()
	size := anySize(r)
	return &source{Mux: newMux(t, craft, size, anyList(r, 0, r.Intn(8)), anyList(r, 1, 1+r.Intn(5)))}, size
}

// Frames that are all fed, in order, some of them more than once, bring all packets whose bytes have been sent.
func TestP11_4Whole(t *testing.T) {
	r := rand.New(rand.NewSource(114))
	doubled, arrived := 0, 0
	for i := range 150 {
		craft := r.Intn(256)
		s, size := anySource(t, r, craft)
		d := newDemux(t, craft, size)
		var got [8][]string
		for k := 0; k < 400 || s.waiting(); k++ {
			for k < 400 && r.Intn(5) < i%5 {
				s.add(t, r.Intn(8), sized(r, anyLength(r)))
			}
			f := s.next(t, uint32(k))
			a, e := d.Feed(f.frame)
			want := api.Arrival{Channel: f.channel, Packets: a.Packets, Word: uint32(k)}
			if e != api.OK || shown(a) != shown(want) {
				t.Fatalf("frame %d: %s, %d", k, shown(a), e)
			}
			got[f.channel] = append(got[f.channel], a.Packets...)
			checkSent(t, s, f.channel, got[f.channel])
			for r.Intn(4) == 0 {
				checkFeed(t, d, f.frame, api.Arrival{Channel: f.channel, Doubled: true, Word: uint32(k)}, api.OK)
				doubled++
			}
		}
		for c := range got {
			if !slices.Equal(got[c], s.packets[c]) {
				t.Fatalf("channel %d: %d packets of %d", c, len(got[c]), len(s.packets[c]))
			}
			arrived += len(got[c])
		}
	}
	if doubled < 1000 || arrived < 10000 {
		t.Errorf("only %d doubled frames, %d packets", doubled, arrived)
	}
}

// checkSent fails if those that have arrived are not the packets whose bytes have been sent.
func checkSent(t *testing.T, s *source, channel int, got []string) {
	t.Helper()
	n := 0
	for n < len(s.spans[channel]) && s.spans[channel][n].to <= s.gone(channel) {
		n++
	}
	if !slices.Equal(got, s.packets[channel][:n]) {
		t.Fatalf("channel %d: %d packets of %d", channel, len(got), n)
	}
}

// loser says which frames are left out: runs of several lengths, in each channel fewer than 255 in a row.
type loser struct {
	r    *rand.Rand
	odds int
	most int
	left list
	row  list
}

// lose tells whether the next frame of a channel is left out.
func (l *loser) lose(channel int) bool {
	if l.left[channel] == 0 && l.r.Intn(l.odds) == 0 {
		l.left[channel] = l.most
		if l.r.Intn(2) == 0 {
			l.left[channel] = 1 + l.r.Intn(l.most)
		}
	}
	if l.left[channel] == 0 || l.row[channel] == 254 {
		l.left[channel], l.row[channel] = 0, 0
		return false
	}
	l.left[channel]--
	l.row[channel]++
	return true
}

// If frames are left out, exactly the packets arrive all of whose frames were fed, and the frames that were left out are counted.
func TestP11_5Losses(t *testing.T) {
	r := rand.New(rand.NewSource(115))
	seen := map[string]int{}
	for i := range 250 {
		s, size := anySource(t, r, 7)
		d := newDemux(t, 7, size)
		l := &loser{r: r, odds: 2 + r.Intn(40), most: []int{1, 3, 30, 254}[i%4]}
		v := &losses{seen: seen}
		for k := 0; k < 600 || s.waiting(); k++ {
			for k < 600 && r.Intn(3) < 1+i%2 {
				s.add(t, r.Intn(2)*r.Intn(8), sized(r, anyLength(r)))
			}
			f := s.next(t, uint32(k))
			if l.lose(f.channel) {
				v.lose(f)
				continue
			}
			a, e := d.Feed(f.frame)
			if e != api.OK || a.Doubled || a.Channel != f.channel {
				t.Fatalf("frame %d: %s, %d", k, shown(a), e)
			}
			v.feed(t, f, a)
			for r.Intn(6) == 0 {
				checkFeed(t, d, f.frame, api.Arrival{Channel: f.channel, Doubled: true, Word: uint32(k)}, api.OK)
			}
		}
		v.check(t, s)
	}
	for _, what := range []string{"lost", "arrived", "given up", "254 in a row"} {
		if seen[what] < 50 {
			t.Errorf("only these cases: %v", seen)
		}
	}
}

// losses is what was left out and what has arrived.
type losses struct {
	seen map[string]int
	lost [8][]sent
	// out and counted are how many frames were left out since the first one that was fed, up to the last one, and how many the demux says.
	fed, row, out, counted list
	got                    [8][]string
}

// lose notes a frame that is left out.
func (v *losses) lose(f sent) {
	v.lost[f.channel] = append(v.lost[f.channel], f)
	v.row[f.channel]++
	v.seen["lost"]++
}

// feed notes what a frame has brought.
func (v *losses) feed(t *testing.T, f sent, a api.Arrival) {
	t.Helper()
	c := f.channel
	if v.row[c] == 254 {
		v.seen["254 in a row"]++
	}
	if v.fed[c] > 0 {
		v.out[c] += v.row[c]
	}
	v.fed[c]++
	v.row[c] = 0
	v.counted[c] += a.Lost
	if v.counted[c] != v.out[c] {
		t.Fatalf("channel %d: %d frames lost, not %d", c, v.counted[c], v.out[c])
	}
	v.got[c] = append(v.got[c], a.Packets...)
}

// check fails if other packets have arrived than those all of whose frames were fed.
func (v *losses) check(t *testing.T, s *source) {
	t.Helper()
	for c := range 8 {
		var want []string
		for i, p := range s.packets[c] {
			if slices.ContainsFunc(v.lost[c], func(f sent) bool { return f.meets(s.spans[c][i]) }) {
				v.seen["given up"]++
			} else {
				v.seen["arrived"]++
				want = append(want, p)
			}
		}
		if !slices.Equal(v.got[c], want) {
			t.Fatalf("channel %d: %d packets, not %d of %d", c, len(v.got[c]), len(want), len(s.packets[c]))
		}
	}
}

// Every single frame, and every two of them, of a few packets that are cut at all places, are left out.
func TestP11_5Each(t *testing.T) {
	r := rand.New(rand.NewSource(1150))
	for round := range 60 {
		s := &source{Mux: newMux(t, 7, 32, same(0), same(1))}
		var frames []sent
		for range 4 {
			s.add(t, 4, sized(r, 7+r.Intn(60)))
			s.add(t, 4, sized(r, 7+r.Intn(10)))
		}
		if round%2 == 0 {
			frames = append(frames, s.next(t, 0))
			s.add(t, 4, sized(r, 26))
		}
		for s.waiting() {
			frames = append(frames, s.next(t, 0))
		}
		for i := range frames {
			for k := i; k < len(frames); k++ {
				d := newDemux(t, 7, 32)
				v := &losses{seen: map[string]int{}}
				for n, f := range frames {
					if n == i || n == k {
						v.lose(f)
						continue
					}
					a, e := d.Feed(f.frame)
					if e != api.OK {
						t.Fatalf("frame %d: %d", n, e)
					}
					v.feed(t, f, a)
				}
				v.check(t, s)
			}
		}
	}
}

// 255 frames in a row that are lost are noticed too, if the next one is not the last one once more; 256 are not.
func TestP11_5Limit(t *testing.T) {
	r := rand.New(rand.NewSource(1151))
	for lost := 250; lost <= 256; lost++ {
		m, d := newMux(t, 1, 32, same(0), same(1)), newDemux(t, 1, 32)
		for range 10 {
			add(t, m, 0, sized(r, 1030))
		}
		_, s := next(t, m, 1)
		checkFeed(t, d, s, api.Arrival{Word: 1}, api.OK)
		for range lost {
			next(t, m, 2)
		}
		_, s = next(t, m, 3)
		a, e := d.Feed(s)
		if e != api.OK || a.Doubled || a.Lost != lost%256 || a.Missed != lost%256 || lost < 256 && a.Broken != 1 {
			t.Errorf("%d frames are lost: %s, %d", lost, shown(a), e)
		}
		m.Clear()
		_, s = next(t, m, 4)
		d.Feed(s)
		for range lost {
			next(t, m, 4)
		}
		_, s = next(t, m, 4)
		if a, e := d.Feed(s); e != api.OK || a.Doubled != (lost == 255) || a.Lost != lost%256%255 {
			t.Errorf("%d idle frames are lost: %s, %d", lost, shown(a), e)
		}
	}
}

// runOf returns how many frames of each channel are among the next ones, before each of which enough for a field waits in some channels.
func runOf(t *testing.T, r *rand.Rand, m *channels.Mux, busy []int, size, frames int) list {
	t.Helper()
	var l list
	for range frames {
		for _, c := range busy {
			for m.Waiting(c) < size || r.Intn(4) == 0 && m.Waiting(c) < 5000 {
				add(t, m, c, sized(r, anyLength(r)))
			}
		}
		f, _ := next(t, m, 0)
		l[f.Channel]++
	}
	return l
}

// Channels of one priority in which enough waits have their shares of the frames, run by run, whatever waits in lower ones, and though less than a field waits in higher ones.
func TestP11_6Shares(t *testing.T) {
	r := rand.New(rand.NewSource(116))
	for i := range 200 {
		size := anySize(r)
		priority, share := anyList(r, 0, 1+i%7), anyList(r, 1, []int{3, 10, 100}[i%3])
		m := newMux(t, 1, size, priority, share)
		greatest := priority[r.Intn(8)]
		var busy []int
		var want list
		sum := 0
		for c, p := range priority {
			switch {
			case p == greatest:
				busy = append(busy, c)
				want[c] = share[c]
				sum += share[c]
			case p < greatest && r.Intn(2) == 0:
				for range 1 + r.Intn(3) {
					add(t, m, c, sized(r, 7+r.Intn(1000)))
				}
			case p > greatest:
				add(t, m, c, sized(r, 7+r.Intn(size-7)))
			}
		}
		for run := range 4 {
			if got := runOf(t, r, m, busy, size, sum); got != want {
				t.Fatalf("priorities %v, shares %v, run %d: %v", priority, share, run, got)
			}
		}
		m.Clear()
		if got := fmt.Sprint(runOf(t, r, m, busy, size, sum)); got != fmt.Sprint(want) {
			t.Fatalf("priorities %v, shares %v, after Clear: %v", priority, share, got)
		}
	}
}
