package core

import (
	"gantlet/api"
	"gantlet/payload"
	"gantlet/settings"
	"gantlet/wire"
)

// connection is the stream of frames that speak of none.
const connection = 0

// numberSize is how many bytes a stream's id has in a payload, a code, or how much a
// window grows.
const numberSize = 4

// The ids of the settings that the peer is told.
const (
	tableID   = 1
	streamsID = 3
	windowID  = 4
	listID    = 6
)

// isCode tells whether the peer can be told a code.
func isCode(code api.Code) bool {
	_, e := wire.Put(int(code), numberSize)
	return e == api.OK
}

// numbers is the payload of numbers that fit.
func numbers(l ...int) []byte {
	b := make([]byte, 0, numberSize*len(l))
	for _, n := range l {
		part, _ := wire.Put(n, numberSize)
		b = append(b, part...)
	}
	return b
}

// greetingFrame is what the peer is told first.
func greetingFrame(c Config) api.Frame {
	b, _ := settings.Encode([]payload.Pair{
		{ID: tableID, Value: c.Table},
		{ID: streamsID, Value: c.Streams},
		{ID: windowID, Value: c.Window},
		{ID: listID, Value: c.List},
	})
	return api.Frame{Kind: api.Settings, Stream: connection, Payload: b}
}

// ackFrame answers a frame of a kind, with its bytes.
func ackFrame(kind api.Kind, b []byte) api.Frame {
	return api.Frame{Kind: kind, Flags: api.Ack, Stream: connection, Payload: b}
}

// updateFrame lets the peer's window be greater.
func updateFrame(id, n int) api.Frame {
	return api.Frame{Kind: api.Update, Stream: id, Payload: numbers(n)}
}

// resetFrame ends a stream.
func resetFrame(id int, code api.Code) api.Frame {
	return api.Frame{Kind: api.Reset, Stream: id, Payload: numbers(int(code))}
}

// goAwayFrame ends the connection, or begins to.
func goAwayFrame(highest int, code api.Code) api.Frame {
	return api.Frame{Kind: api.GoAway, Stream: connection, Payload: numbers(highest, int(code))}
}
