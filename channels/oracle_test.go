package channels_test

import (
	"fmt"
	"math"
	"math/rand"
	"strings"
	"testing"

	"perigee/api"
	"perigee/channels"
	"perigee/packet"
	"perigee/tmframe"
)

// This file: the definitions of the chapter as models of a mux and of a demux, and the packets and frames that the tests use.

// list is a number for each channel.
type list = [8]int

// muxModel is a mux as the chapter describes it.
type muxModel struct {
	craft, size     int
	priority, share list
	fillers         [8]*tmframe.Filler
	master          int
	count, credit   list
}

// newMuxModel returns the model of a mux in which nothing waits.
func newMuxModel(craft, size int, priority, share list) *muxModel {
	m := &muxModel{craft: craft, size: size, priority: priority, share: share}
	for i := range m.fillers {
		m.fillers[i], _ = tmframe.New(size)
	}
	return m
}

// with returns the channels in which at least n bytes wait.
func (m *muxModel) with(n int) map[int]bool {
	set := map[int]bool{}
	for c, f := range m.fillers {
		if f.Waiting() >= n {
			set[c] = true
		}
	}
	return set
}

// choose returns the channel of the next frame that is not idle.
func (m *muxModel) choose() int {
	candidates := m.with(m.size)
	if len(candidates) == 0 {
		candidates = m.with(1)
	}
	greatest := -1
	for c := range candidates {
		greatest = max(greatest, m.priority[c])
	}
	rich := false
	for c := range candidates {
		if m.priority[c] < greatest {
			delete(candidates, c)
		} else if m.credit[c] > 0 {
			rich = true
		}
	}
	for c := range 8 {
		if m.priority[c] == greatest && !rich {
			m.credit[c] = m.share[c]
		}
	}
	chosen := -1
	for c := 7; c >= 0; c-- {
		if candidates[c] && (chosen < 0 || m.credit[c] >= m.credit[chosen]) {
			chosen = c
		}
	}
	m.credit[chosen]--
	return chosen
}

// next returns the next frame.
func (m *muxModel) next(word uint32) api.TmFrame {
	f := api.TmFrame{Craft: m.craft, Channel: 7, First: 2046, Data: strings.Repeat("U", m.size), Word: word}
	if len(m.with(1)) > 0 {
		f.Channel = m.choose()
		f.Data, f.First, _ = m.fillers[f.Channel].Next()
	}
	f.Master, f.Count = m.master&255, m.count[f.Channel]&255
	m.master++
	m.count[f.Channel]++
	return f
}

// clear drops everything.
func (m *muxModel) clear() {
	*m = *newMuxModel(m.craft, m.size, m.priority, m.share)
}

// demuxModel is a demux as the chapter describes it.
type demuxModel struct {
	craft, size int
	// frames are all frames that were accepted, last those of the channels.
	frames []api.TmFrame
	last   map[int]string
	parts  map[int]string
}

// newDemuxModel returns the model of a demux that has accepted no frame.
func newDemuxModel(craft, size int) *demuxModel {
	return &demuxModel{craft: craft, size: size, last: map[int]string{}, parts: map[int]string{}}
}

// accept notes a frame, and returns how many of the craft and of its channel are missing before it.
func (d *demuxModel) accept(frame string, f api.TmFrame) (missed, lost int) {
	if n := len(d.frames); n > 0 {
		missed = (f.Master - d.frames[n-1].Master - 1) & 255
	}
	if s, ok := d.last[f.Channel]; ok {
		g, _ := tmframe.Get(s)
		lost = (f.Count - g.Count - 1) & 255
	}
	d.frames = append(d.frames, f)
	d.last[f.Channel] = frame
	return missed, lost
}

// feed takes a frame.
func (d *demuxModel) feed(frame string) (api.Arrival, api.Errno) {
	f, e := tmframe.Get(frame)
	if e != api.OK {
		return api.Arrival{}, e
	}
	if f.Craft != d.craft || len(f.Data) != d.size {
		return api.Arrival{}, api.ErrArg
	}
	a := api.Arrival{Channel: f.Channel, Word: f.Word}
	if d.last[f.Channel] == frame {
		a.Doubled = true
		return a, api.OK
	}
	a.Missed, a.Lost = d.accept(frame, f)
	if _, open := d.parts[f.Channel]; open && a.Lost != 0 {
		d.giveUp(&a)
	}
	if f.First == 2046 {
		return a, api.OK
	}
	if part, open := d.parts[f.Channel]; open {
		d.goOn(part, f, &a)
	}
	if f.First != 2047 {
		d.begin(f.Data[f.First:], &a)
	}
	return a, api.OK
}

// giveUp gives the part of a channel up.
func (d *demuxModel) giveUp(a *api.Arrival) {
	delete(d.parts, a.Channel)
	a.Broken++
}

// goOn appends the beginning of a data field to a part.
func (d *demuxModel) goOn(part string, f api.TmFrame, a *api.Arrival) {
	part += f.Data[:min(f.First, len(f.Data))]
	if p, e := packet.Get(part); e == api.OK {
		arriveModel(p, a)
		delete(d.parts, f.Channel)
		return
	}
	if _, _, e := packet.Take(part); e == api.ErrNone && f.First == 2047 {
		d.parts[f.Channel] = part
		return
	}
	d.giveUp(a)
}

// begin takes the packets of a data field from the first one on.
func (d *demuxModel) begin(data string, a *api.Arrival) {
	delete(d.parts, a.Channel)
	for data != "" {
		p, n, e := packet.Take(data)
		if e == api.ErrForm {
			a.Broken++
			return
		}
		if e == api.ErrNone {
			d.parts[a.Channel] = data
			return
		}
		arriveModel(p, a)
		data = data[n:]
	}
}

// arriveModel adds a packet to what has arrived, unless it is idle.
func arriveModel(p api.Packet, a *api.Arrival) {
	if s, _ := packet.Put(p); p.APID < 2047 {
		a.Packets = append(a.Packets, s)
	}
}

// noBytes, noSizes, noPriorities, noShares and noChannels return numbers that a craft, the size of a data field, a priority, a share and a channel cannot be.
func noBytes() []int {
	return []int{-1, 256, -2, -255, -256, 257, 511, 512, 1 << 16, 1 << 32, 1<<32 + 7, math.MinInt, math.MinInt + 7, math.MaxInt}
}

func noSizes() []int {
	return []int{31, 201, 0, 1, -1, -32, 30, 202, 255, 256, 1 << 16, 1<<32 + 32, 1<<32 + 100, math.MinInt, math.MinInt + 32, math.MaxInt}
}

func noPriorities() []int {
	return []int{-1, 8, -7, -8, 9, 255, 256, 1 << 32, 1<<32 + 3, math.MinInt, math.MinInt + 3, math.MaxInt}
}

func noShares() []int {
	return []int{0, 101, -1, -100, 102, 255, 256, 257, 1 << 32, 1<<32 + 3, math.MinInt, math.MinInt + 3, math.MaxInt}
}

func noChannels() []int { return noPriorities() }

// same returns the same number for each channel.
func same(n int) list {
	var l list
	for i := range l {
		l[i] = n
	}
	return l
}

// anyList returns a number from least to most for each channel.
func anyList(r *rand.Rand, least, most int) list {
	var l list
	for i := range l {
		l[i] = least + r.Intn(most-least+1)
	}
	return l
}

// anyBytes returns n bytes.
func anyBytes(r *rand.Rand, n int) string {
	b := make([]byte, n)
	r.Read(b)
	return string(b)
}

// anySize returns the size of a data field, often the least or the greatest one.
func anySize(r *rand.Rand) int {
	if i := r.Intn(8); i < 2 {
		return []int{32, 200}[i]
	}
	return 32 + r.Intn(169)
}

// anyLength returns a number of bytes of a packet, sometimes the least or the greatest one.
func anyLength(r *rand.Rand) int {
	if i := r.Intn(20); i < 2 {
		return []int{7, 1030}[i]
	}
	return 7 + r.Intn([]int{10, 40, 300}[r.Intn(3)])
}

// sized returns a packet of n bytes, that is not idle.
func sized(r *rand.Rand, n int) string {
	s, e := packet.Put(api.Packet{Command: r.Intn(2) == 0, APID: r.Intn(2047), Flags: r.Intn(4), Count: r.Intn(16384), Data: anyBytes(r, n-6)})
	if e != api.OK || len(s) != n {
		panic(fmt.Sprintf("a packet of %d bytes: %d", n, e))
	}
	return s
}

// idle returns an idle packet of n bytes.
func idle(n int) string {
	s, e := packet.Idle(n)
	if e != api.OK {
		panic(fmt.Sprintf("an idle packet of %d bytes: %d", n, e))
	}
	return s
}

// put returns the encoding of a frame.
func put(f api.TmFrame) string {
	s, e := tmframe.Put(f)
	if e != api.OK {
		panic(fmt.Sprintf("a frame that is not valid: %.99q", fmt.Sprint(f)))
	}
	return s
}

// newMux returns a mux.
func newMux(t *testing.T, craft, size int, priority, share list) *channels.Mux {
	t.Helper()
	m, e := channels.NewMux(craft, size, priority, share)
	if m == nil || e != api.OK {
		t.Fatalf("NewMux(%d, %d, %v, %v): %v, %d", craft, size, priority, share, m, e)
	}
	return m
}

// newDemux returns a demux.
func newDemux(t *testing.T, craft, size int) *channels.Demux {
	t.Helper()
	d, e := channels.NewDemux(craft, size)
	if d == nil || e != api.OK {
		t.Fatalf("NewDemux(%d, %d): %v, %d", craft, size, d, e)
	}
	return d
}

// add adds packets to a channel.
func add(t *testing.T, m *channels.Mux, channel int, packets ...string) {
	t.Helper()
	for _, p := range packets {
		if e := m.Add(channel, p); e != api.OK {
			t.Fatalf("Add of %d bytes to %d of the channel %d: %d", len(p), m.Waiting(channel), channel, e)
		}
	}
}

// next returns the next frame of a mux, and its encoding.
func next(t *testing.T, m *channels.Mux, word uint32) (api.TmFrame, string) {
	t.Helper()
	s, e := m.Next(word)
	if e != api.OK {
		t.Fatalf("Next(%d): %x, %d", word, s, e)
	}
	f, e := tmframe.Get(s)
	if e != api.OK {
		t.Fatalf("Next(%d) is no frame: %x, %d", word, s, e)
	}
	return f, s
}

// checkNext fails if the next frame of a mux is not that of its model, and returns it.
func checkNext(t *testing.T, m *channels.Mux, model *muxModel, word uint32) api.TmFrame {
	t.Helper()
	want := model.next(word)
	if s, e := m.Next(word); s != put(want) || e != api.OK {
		f, _ := tmframe.Get(s)
		t.Fatalf("Next(%d) = %.199q, %d, not %.199q", word, fmt.Sprint(f), e, fmt.Sprint(want))
	}
	checkWaiting(t, m, model)
	return want
}

// checkWaiting fails if not as many bytes wait in each channel as the model says.
func checkWaiting(t *testing.T, m *channels.Mux, model *muxModel) {
	t.Helper()
	for c, f := range model.fillers {
		if n := m.Waiting(c); n != f.Waiting() {
			t.Fatalf("%d bytes wait in the channel %d, not %d", n, c, f.Waiting())
		}
	}
}

// shown returns an arrival as a text, in which an empty list of packets is as none.
func shown(a api.Arrival) string {
	return fmt.Sprintf("channel %d, doubled %v, lost %d, missed %d, %d packets %q, broken %d, word %d", a.Channel, a.Doubled, a.Lost, a.Missed, len(a.Packets), a.Packets, a.Broken, a.Word)
}

// checkFeed fails if a demux does not return this for a frame.
func checkFeed(t *testing.T, d *channels.Demux, frame string, want api.Arrival, wanted api.Errno) {
	t.Helper()
	if a, e := d.Feed(frame); shown(a) != shown(want) || e != wanted {
		t.Fatalf("Feed(%x) = %.500s; %d, not %.500s; %d", frame, shown(a), e, shown(want), wanted)
	}
}

// checkSame fails if a demux does not return for a frame what its model does, which is returned.
func checkSame(t *testing.T, d *channels.Demux, model *demuxModel, frame string) (api.Arrival, api.Errno) {
	t.Helper()
	want, e := model.feed(frame)
	checkFeed(t, d, frame, want, e)
	return want, e
}
