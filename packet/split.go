package packet

import (
	"strings"

	"perigee/api"
)

// Split returns the packets that carry a message.
func Split(command bool, apid, count int, message string, most int) ([]api.Packet, api.Errno) {
	if !isAPID(apid) || apid == idle || !isCount(count) || !isSize(most) || message == "" {
		return nil, api.ErrArg
	}
	if len(message) > api.MaxMessage {
		return nil, api.ErrLong
	}
	var packets []api.Packet
	for from := 0; from < len(message); from += most {
		to := min(from+most, len(message))
		packets = append(packets, api.Packet{
			Command: command,
			APID:    apid,
			Flags:   flagsOf(from == 0, to == len(message)),
			Count:   count,
			Data:    strings.Clone(message[from:to]),
		})
		count = nextCount(count)
	}
	return packets, api.OK
}

// flagsOf returns the flags of a packet that is the first one of its message, the last one, both or neither.
func flagsOf(first, last bool) int {
	switch {
	case first && last:
		return api.SfOnly
	case first:
		return api.SfFirst
	case last:
		return api.SfLast
	}
	return api.SfMiddle
}

// meaning tells whether a packet with these flags is the first one of its message, and whether it is the last one.
func meaning(flags int) (first, last bool) {
	switch flags {
	case api.SfOnly:
		last = true
		fallthrough
	case api.SfFirst:
		first = true
	case api.SfLast:
		last = true
	}
	return first, last
}
