package core

import (
	"gantlet/api"
	"gantlet/life"
	"gantlet/payload"
	"gantlet/request"
	"gantlet/window"
)

// stream is an active one.
type stream struct {
	state         life.State
	in, got, want int
}

// unread is a block under way.
type unread struct {
	id    int
	bytes []byte
	end   bool
}

// size is how many bytes there are; 0, if no block is under way.
func (u *unread) size() int {
	if u == nil {
		return 0
	}
	return len(u.bytes)
}

// head is what a block was read as.
type head struct {
	id     int
	fields []api.Field
	cut    bool
	end    bool
}

// headersEvent is what comes with a block.
func headersEvent(end bool) life.Event {
	if end {
		return life.HeadersLast
	}
	return life.HeadersIn
}

// dataEvent is what comes with bytes.
func dataEvent(end bool) life.Event {
	if end {
		return life.DataLast
	}
	return life.DataIn
}

// begun is the stream of a head, and the code, if that may not be a request.
func begun(h head, in int) (*stream, api.Code) {
	next, _ := life.After(life.Idle, headersEvent(h.end))
	s := &stream{state: next.State, in: in, want: request.Length(h.fields)}
	switch {
	case h.cut:
		return s, api.Calm
	case !request.Request(h.fields), h.end && s.want > 0:
		return s, api.Protocol
	}
	return s, api.NoError
}

// isOff tells whether other bytes came than those that the request told of.
func (s *stream) isOff(end bool) bool {
	return s.want >= 0 && (s.got > s.want || end && s.got != s.want)
}

// hear lets bytes come; it tells the code, if the stream fails.
func (s *stream) hear(p payload.Parts) api.Code {
	next, _ := life.After(s.state, dataEvent(p.End))
	if next.Code != api.NoError {
		return next.Code
	}
	left, ok := window.Take(s.in, p.Flow)
	if !ok {
		return api.FlowControl
	}
	s.in = left
	s.got += len(p.Bytes)
	if s.isOff(p.End) {
		return api.Protocol
	}
	s.state = next.State
	return api.NoError
}

// finish lets trailers come; it tells the code, if the stream fails.
func (s *stream) finish(h head) api.Code {
	next, _ := life.After(s.state, headersEvent(h.end))
	switch {
	case next.Code != api.NoError:
		return next.Code
	case h.cut:
		return api.Calm
	case !request.Trailers(h.fields), s.isOff(true):
		return api.Protocol
	}
	s.state = next.State
	return api.NoError
}
