package send

import (
	"bytes"

	"gantlet/api"
	"gantlet/window"
)

// pile is bytes that wait: those that came, but for the first ones, so many, that went.
type pile struct {
	came []byte
	went int
}

// size is how many wait.
func (p *pile) size() int { return len(p.came) - p.went }

// put lets bytes wait behind the others.
func (p *pile) put(b []byte) { p.came = append(p.came, b...) }

// take is the first bytes, at most so many, which go.
func (p *pile) take(most int) []byte {
	n := min(most, p.size())
	b := bytes.Clone(p.came[p.went : p.went+n])
	p.went += n
	// What went is let go only when no less went than waits: so no more bytes are ever
	// moved than went. And into new memory: a small rest would hold on to the old one.
	if p.size() <= p.went {
		p.came, p.went = bytes.Clone(p.came[p.went:]), 0
	}
	return b
}

// stream is what waits of one.
type stream struct {
	window int
	// head is nothing, once it went, or as long as it was not said; but what was said
	// may have no bytes either: so headWaits tells whether it waits.
	head                          []byte
	headSaid, headWaits, lastSaid bool
	waiting                       pile
}

// sayHead lets the head wait.
func (t *stream) sayHead(block []byte, last bool) {
	t.head = bytes.Clone(block)
	t.headSaid, t.headWaits, t.lastSaid = true, true, last
}

// sayData lets bytes wait.
func (t *stream) sayData(b []byte, last bool) {
	t.waiting.put(b)
	t.lastSaid = last
}

// ended tells whether no byte waits, and none can come.
func (t *stream) ended() bool { return t.lastSaid && t.waiting.size() == 0 }

// end is the flag that a frame has which goes last.
func (t *stream) end() int {
	if t.ended() {
		return api.EndStream
	}
	return 0
}

// headers is the frame with the head, which goes.
func (t *stream) headers(id int) api.Frame {
	f := api.Frame{Kind: api.Headers, Flags: api.EndHeaders | t.end(), Stream: id, Payload: t.head}
	t.head, t.headWaits = nil, false
	return f
}

// data is the frame with the first bytes, at most so many, which go.
func (t *stream) data(id, most int) api.Frame {
	b := t.waiting.take(most)
	t.window, _ = window.Take(t.window, len(b))
	return api.Frame{Kind: api.Data, Flags: t.end(), Stream: id, Payload: b}
}
