package packet

import (
	"perigee/api"
	"perigee/fields"
)

// headSize is the number of bytes of a header.
const headSize = 6

// headWidths returns the widths of the fields of a header: 0, whether it is a command, 0, the APID, the flags, the count, and the number of bytes of data minus 1.
func headWidths() []int { return []int{3, 1, 1, 11, 2, 14, 16} }

// header returns the header of a valid packet.
func header(p api.Packet) string {
	command := 0
	if p.Command {
		command = 1
	}
	return written(0, command, 0, p.APID, p.Flags, p.Count, len(p.Data)-1)
}

// parsed returns what a header says of a packet, and how many bytes of data belong to it, if it is the header of a valid packet.
func parsed(head string) (p api.Packet, size int, ok bool) {
	var first, command, second, last int
	read(head, &first, &command, &second, &p.APID, &p.Flags, &p.Count, &last)
	if first != 0 || second != 0 || !isSize(last+1) {
		return api.Packet{}, 0, false
	}
	p.Command = command == 1
	return p, last + 1, true
}

// written returns the header whose fields have these values.
func written(values ...int) string {
	numbers := make([]uint64, len(values))
	for i, value := range values {
		numbers[i] = uint64(value)
	}
	// The fields of a valid packet fit.
	head, _ := fields.Pack(headWidths(), numbers)
	return head
}

// read puts the values of the fields of a header into these places.
func read(head string, places ...*int) {
	// Six bytes have the form that the widths ask for.
	numbers, _ := fields.Unpack(headWidths(), head)
	for i, n := range numbers {
		*places[i] = int(n)
	}
}
