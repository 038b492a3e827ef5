package core

import (
	"gantlet/api"
	"gantlet/payload"
	"gantlet/settings"
	"gantlet/window"
)

// What an id is (17).
const (
	idle = iota
	active
	late
	past
)

// What is counted (18).
const (
	resets = iota
	pings
	asked // Settings
	empties
	updates
	blocks
)

// turn is what happens to a core in one call, and what is told of it. A step that may
// let the core fail tells whether it goes on: nothing more happens, if it doesn't.
type turn struct {
	*Core
	told []Event
}

// kinds are those of frames with which something happens, each with what does.
func kinds() map[api.Kind]func(*turn, int, payload.Parts) {
	return map[api.Kind]func(*turn, int, payload.Parts){
		api.Data:         (*turn).data,
		api.Headers:      (*turn).headers,
		api.Reset:        (*turn).resetIn,
		api.Settings:     (*turn).settingsIn,
		api.Ping:         (*turn).ping,
		api.GoAway:       (*turn).goAway,
		api.Update:       (*turn).update,
		api.Continuation: (*turn).continuation,
	}
}

// come lets a frame have its effect.
func (t *turn) come(f api.Frame) {
	if !t.isNext(f) {
		t.fail(api.Protocol)
		return
	}
	p, fault, ok := payload.Read(f)
	if !ok {
		t.wrong(fault)
		return
	}
	if happen, known := kinds()[f.Kind]; known {
		happen(t, f.Stream, p)
	}
}

// isNext tells whether a frame may come now, whatever it says.
func (t *turn) isNext(f api.Frame) bool {
	switch {
	case !t.greeted:
		return f.Kind == api.Settings && f.Flags&api.Ack == 0
	case t.unread != nil:
		return f.Kind == api.Continuation && f.Stream == t.unread.id
	}
	return f.Kind != api.Continuation
}

// wrong lets a frame's fault have its effect.
func (t *turn) wrong(f api.Fault) {
	switch t.streams.Kind(f.Stream) {
	case idle:
		// So is 0, the connection.
		t.fail(f.Code)
	case active:
		t.failStream(f.Stream, f.Code)
	}
}

// tell lets an event be told.
func (t *turn) tell(e Event) { t.told = append(t.told, e) }

// fail ends the core.
func (t *turn) fail(code api.Code) {
	t.over = true
	for _, id := range t.sender.IDs() {
		t.sender.Drop(id)
	}
	t.queue.Last(goAwayFrame(t.streams.Highest(), code))
	t.tell(Event{Kind: Over, Code: code})
}

// push queues a frame, if there is room.
func (t *turn) push(f api.Frame) bool {
	if t.queue.Push(f) != api.OK {
		t.fail(api.Calm)
	}
	return !t.over
}

// count counts, up to a limit.
func (t *turn) count(kind int) bool {
	if above, _ := t.meter.Count(kind); above {
		t.fail(api.Calm)
	}
	return !t.over
}

// reset closes a stream, and tells the peer.
func (t *turn) reset(id int, code api.Code) bool {
	t.shut(id, true)
	return t.push(resetFrame(id, code))
}

// failStream ends a stream.
func (t *turn) failStream(id int, code api.Code) {
	if t.reset(id, code) {
		t.tell(Event{Kind: Failed, Stream: id, Code: code})
	}
}

// grant lets a window grow by what came, if that is something, and tells the peer.
func (t *turn) grant(in *int, id, n int) bool {
	if n == 0 {
		return true
	}
	*in, _ = window.Grow(*in, n)
	return t.push(updateFrame(id, n))
}

// credit lets the connection's window grow.
func (t *turn) credit(n int) bool { return t.grant(&t.in, connection, n) }

// data lets bytes come.
func (t *turn) data(id int, p payload.Parts) {
	left, ok := window.Take(t.in, p.Flow)
	if !ok {
		t.fail(api.FlowControl)
		return
	}
	t.in = left
	if len(p.Bytes) == 0 && !p.End && !t.count(empties) {
		return
	}
	switch t.streams.Kind(id) {
	case idle:
		t.fail(api.Protocol)
	case past:
		t.fail(api.StreamClosed)
	case late:
		t.credit(p.Flow)
	case active:
		t.body(id, p)
	}
}

// body lets bytes come to an active stream.
func (t *turn) body(id int, p payload.Parts) {
	s := t.lives[id]
	if code := s.hear(p); code != api.NoError {
		if t.credit(p.Flow) {
			t.failStream(id, code)
		}
		return
	}
	t.tell(Event{Kind: Body, Stream: id, Bytes: p.Bytes, End: p.End})
	if !t.credit(p.Flow) {
		return
	}
	if p.End {
		// Nothing comes any more that its window could be for.
		t.settle(id)
		return
	}
	t.grant(&s.in, id, p.Flow)
}

// headers lets a block begin.
func (t *turn) headers(id int, p payload.Parts) {
	t.meter.Clear(blocks)
	t.unread = &unread{id: id, end: p.End}
	t.goOn(p)
}

// continuation lets the block go on, of whatever stream: that was looked at.
func (t *turn) continuation(_ int, p payload.Parts) {
	if t.count(blocks) {
		t.goOn(p)
	}
}

// goOn lets bytes of the block come, which may be the last ones.
func (t *turn) goOn(p payload.Parts) {
	u := t.unread
	u.bytes = append(u.bytes, p.Bytes...)
	switch {
	case u.size() > t.list+api.MinFrame:
		t.fail(api.Calm)
	case p.Whole:
		t.unread = nil
		t.read(u)
	}
}

// read lets a whole block have its effect. It is read whatever its stream is, as the
// table must be what the peer takes it to be.
func (t *turn) read(u *unread) {
	l, cut, e := t.decoder.Decode(u.bytes, t.list)
	if e != api.OK {
		t.fail(api.Compression)
		return
	}
	t.hear(head{id: u.id, fields: l, cut: cut, end: u.end})
}

// hear lets a head come.
func (t *turn) hear(h head) {
	if h.id%2 == 0 {
		t.fail(api.Protocol)
		return
	}
	switch t.streams.Kind(h.id) {
	case idle:
		t.begin(h)
	case past:
		t.fail(api.StreamClosed)
	case active:
		t.finish(h)
	}
}

// begin lets a stream begin.
func (t *turn) begin(h head) {
	if t.leaving {
		return
	}
	if t.streams.Open(h.id) != api.OK {
		t.push(resetFrame(h.id, api.Refused))
		return
	}
	s, code := begun(h, t.window)
	t.lives[h.id] = s
	if code != api.NoError {
		// No event tells of it, as none told of the stream.
		t.reset(h.id, code)
		return
	}
	t.sender.Open(h.id, t.peer.Window)
	t.tell(Event{Kind: Request, Stream: h.id, Fields: h.fields, End: h.end})
}

// finish lets trailers come to an active stream.
func (t *turn) finish(h head) {
	if code := t.lives[h.id].finish(h); code != api.NoError {
		t.failStream(h.id, code)
		return
	}
	t.tell(Event{Kind: Trailers, Stream: h.id, Fields: h.fields, End: h.end})
	t.settle(h.id)
}

// resetIn lets the peer close a stream.
func (t *turn) resetIn(id int, p payload.Parts) {
	kind := t.streams.Kind(id)
	if kind == idle {
		t.fail(api.Protocol)
		return
	}
	if t.count(resets) && kind == active {
		t.shut(id, false)
		t.tell(Event{Kind: Gone, Stream: id, Code: api.Code(p.Code)})
	}
}

// settingsIn lets the peer ask for what it needs.
func (t *turn) settingsIn(_ int, p payload.Parts) {
	if p.Acked {
		return
	}
	t.greeted = true
	if !t.count(asked) {
		return
	}
	peer, more, code := settings.Apply(t.peer, p.Pairs)
	if code != api.NoError {
		t.fail(code)
		return
	}
	t.peer = peer
	if t.sender.Shift(more) != 0 {
		t.fail(api.FlowControl)
		return
	}
	t.push(ackFrame(api.Settings, nil))
}

// ping lets the peer be answered.
func (t *turn) ping(_ int, p payload.Parts) {
	if !p.Acked && t.count(pings) {
		t.push(ackFrame(api.Ping, p.Bytes))
	}
}

// goAway lets it be told that the peer leaves.
func (t *turn) goAway(_ int, p payload.Parts) {
	t.tell(Event{Kind: Leaves, Stream: p.Last, Code: api.Code(p.Code)})
}

// update lets a window OUT grow.
func (t *turn) update(id int, p payload.Parts) {
	if !t.count(updates) {
		return
	}
	if id == connection {
		t.widen(p.Add)
		return
	}
	switch t.streams.Kind(id) {
	case idle:
		t.fail(api.Protocol)
	case active:
		// An error tells that it is gone from the sender: its window is no matter.
		if grew, e := t.sender.Grow(id, p.Add); e == api.OK && !grew {
			t.failStream(id, api.FlowControl)
		}
	}
}

// widen lets the connection's window OUT grow.
func (t *turn) widen(n int) {
	w, ok := window.Grow(t.out, n)
	if !ok {
		t.fail(api.FlowControl)
		return
	}
	t.out = w
}
