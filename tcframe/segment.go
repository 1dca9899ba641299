package tcframe

import "perigee/api"

const (
	// maxPacket is the number of bytes of the longest packet: six bytes are its header.
	maxPacket = 6 + api.MaxPacket
	// maxPart is the number of bytes of the longest part: a byte of the segment contains the flags.
	maxPart = api.MaxTcData - 1
	// flagsAt is the number of the lowest bit of the flags in their byte.
	flagsAt = 6
)

// Segments returns the segments that carry a packet.
func Segments(packet string, most int) ([]string, api.Errno) {
	if len(packet) == 0 || len(packet) > maxPacket || !isPart(most) {
		return nil, api.ErrArg
	}
	var segments []string
	for from := 0; from < len(packet); from += most {
		to := min(from+most, len(packet))
		segments = append(segments, segment(flags(from == 0, to == len(packet)), packet[from:to]))
	}
	return segments, api.OK
}

// flags returns the flags of a part that is or is not the first one, or the last one, of its packet.
func flags(first, last bool) int {
	switch {
	case first && last:
		return api.SfOnly
	case first:
		return api.SfFirst
	case last:
		return api.SfLast
	}
	return api.SfMiddle
}

// segment returns the segment with these flags and a part.
func segment(flags int, part string) string {
	return string([]byte{byte(flags << flagsAt)}) + part
}

// taken returns the flags and the part of a segment.
func taken(segment string) (flags int, part string, ok bool) {
	if !isPart(len(segment) - 1) {
		return 0, "", false
	}
	flags = int(segment[0] >> flagsAt)
	return flags, segment[1:], segment[0] == byte(flags<<flagsAt)
}

// isPart tells whether a part can have so many bytes.
func isPart(size int) bool { return size >= 1 && size <= maxPart }
