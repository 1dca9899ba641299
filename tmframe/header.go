package tmframe

import (
	"strings"

	"perigee/api"
	"perigee/fields"
)

const (
	// headSize, wordSize and sumSize are the numbers of bytes of the header, of the control word and of the checksum.
	headSize = 6
	wordSize = 4
	sumSize  = 2
	// byteBits is the number of bits of a byte.
	byteBits = 8
)

// headWidths returns the widths of the fields of a header: 0, the craft, the channel, 0, the counts of the craft and of the channel, 0, and where the first packet begins.
func headWidths() []int { return []int{2, 8, 3, 3, 8, 8, 5, 11} }

// header returns the header of a valid frame.
func header(f api.TmFrame) string {
	values := []uint64{0, uint64(f.Craft), uint64(f.Channel), 0, uint64(f.Master), uint64(f.Count), 0, uint64(f.First)}
	// The fields of a valid frame fit.
	head, _ := fields.Pack(headWidths(), values)
	return head
}

// word returns the bytes of the control word of a frame.
func word(f api.TmFrame) string {
	// A number of 32 bits fits.
	b, _ := fields.Pack([]int{byteBits * wordSize}, []uint64{uint64(f.Word)})
	return b
}

// parsed returns what a header, data and a control word say of a frame, which need not be valid.
func parsed(body string) api.TmFrame {
	end := len(body) - wordSize
	// Six bytes have the form that the widths ask for, and there are four bytes behind the data.
	values, _ := fields.Unpack(headWidths(), body[:headSize])
	number, _ := fields.Get(body, byteBits*end, byteBits*wordSize)
	return api.TmFrame{
		Craft:   int(values[1]),
		Channel: int(values[2]),
		Master:  int(values[4]),
		Count:   int(values[5]),
		First:   int(values[7]),
		Data:    strings.Clone(body[headSize:end]),
		Word:    uint32(number),
	}
}
