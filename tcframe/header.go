package tcframe

import (
	"perigee/api"
	"perigee/fields"
)

// headSize is the number of bytes of a header.
const headSize = 5

// header contains the fields of a header, in their order.
type header struct {
	// first and second are bits that have to be 0.
	first, bypass, control, second int
	craft, channel                 int
	// last is the number of bytes of the encoding, minus 1.
	last int
	seq  int
}

// headWidths returns the widths of the fields of a header.
func headWidths() []int { return []int{2, 1, 1, 2, 10, 6, 10, 8} }

// headerOf returns the header of a valid frame.
func headerOf(f api.TcFrame) header {
	return header{
		bypass:  bit(f.Bypass),
		control: bit(f.Control),
		craft:   f.Craft,
		channel: f.Channel,
		last:    around + len(f.Data) - 1,
		seq:     f.Seq,
	}
}

// bit returns 1 if a flag is set.
func bit(flag bool) int {
	if flag {
		return 1
	}
	return 0
}

// parsed returns the fields of five bytes.
func parsed(head string) header {
	var h header
	// Five bytes have the form that the widths ask for.
	values, _ := fields.Unpack(headWidths(), head)
	for i, place := range h.places() {
		*place = int(values[i])
	}
	return h
}

// bytes returns the five bytes with the fields of a header.
func (h header) bytes() string {
	var values []uint64
	for _, place := range h.places() {
		values = append(values, uint64(*place))
	}
	// The fields of a valid frame fit.
	head, _ := fields.Pack(headWidths(), values)
	return head
}

// places returns where the fields of a header are, in their order.
func (h *header) places() []*int {
	return []*int{&h.first, &h.bypass, &h.control, &h.second, &h.craft, &h.channel, &h.last, &h.seq}
}

// frame returns the frame with the fields of a header and with these data, which need not be valid.
func (h header) frame(data string) api.TcFrame {
	return api.TcFrame{
		Craft:   h.craft,
		Channel: h.channel,
		Bypass:  h.bypass == 1,
		Control: h.control == 1,
		Seq:     h.seq,
		Data:    data,
	}
}
