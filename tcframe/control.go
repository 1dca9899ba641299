package tcframe

import (
	"strings"

	"perigee/api"
)

const (
	// unlockData is the data of an unlock frame.
	unlockData = "\x00"
	// setData is the data of a frame that sets the expected sequence number, up to that number.
	setData = "\x82\x00"
)

// Unlock returns the frame that ends a lockout.
func Unlock(craft, channel int) (api.TcFrame, api.Errno) {
	return control(craft, channel, unlockData)
}

// SetNext returns the frame that sets the expected sequence number.
func SetNext(craft, channel, next int) (api.TcFrame, api.Errno) {
	if !isByte(next) {
		return api.TcFrame{}, api.ErrArg
	}
	return control(craft, channel, setData+string([]byte{byte(next)}))
}

// Control returns what a control frame says: unlock, or otherwise the expected sequence number.
func Control(f api.TcFrame) (unlock bool, next int, ok bool) {
	if !isFrame(f) || !f.Control {
		return false, 0, false
	}
	if f.Data == unlockData {
		return true, 0, true
	}
	number, found := strings.CutPrefix(f.Data, setData)
	if !found || len(number) != 1 {
		return false, 0, false
	}
	return false, int(number[0]), true
}

// control returns the control frame with these data.
func control(craft, channel int, data string) (api.TcFrame, api.Errno) {
	f := api.TcFrame{Craft: craft, Channel: channel, Bypass: true, Control: true, Data: data}
	if !isFrame(f) {
		return api.TcFrame{}, api.ErrArg
	}
	return f, api.OK
}
