package core_test

import (
	"bytes"
	"maps"
	"slices"
	"testing"

	"gantlet/api"
	"gantlet/block"
	"gantlet/core"
	"gantlet/payload"
	"gantlet/request"
)

// stopped is what ends a step of the model that has failed: nothing more happens.
type stopped struct{}

// told is an active stream, by the document's words: what was said of it is kept for
// good.
type told struct {
	peerDone, ownDone bool
	in, got, want     int
	// What is of the sender.
	there, headSaid, headWent, last bool
	window, went                    int
	head, said                      []byte
}

// under is a block under way.
type under struct {
	id    int
	bytes []byte
	end   bool
}

// model is the document's words, told again. Of the layers below it leans on those that
// keep nothing, and on the decoder.
type model struct {
	k                      core.Config
	decoder                *block.Decoder
	active                 map[int]*told
	late                   []int
	highest                int
	counts                 [6]int
	queue                  []api.Frame
	window, in, out        int
	block                  *under
	greeted, leaving, over bool
	events                 []core.Event
}

// newModel is one of a configuration.
func newModel(k core.Config) *model {
	d, _ := block.New(k.Table)
	m := &model{k: k, decoder: d, active: map[int]*told{}, window: 65535, in: 65535, out: 65535}
	m.queue = []api.Frame{asks(1, k.Table, 3, k.Streams, 4, k.Window, 6, k.List)}
	return m
}

// happens is what is told of something, up to the core's failing.
func (m *model) happens(something func()) (l []core.Event) {
	m.events = nil
	defer func() {
		if x := recover(); x != nil && x != any(stopped{}) {
			panic(x)
		}
		l = m.events
	}()
	something()
	return
}

func (m *model) tell(e core.Event) { m.events = append(m.events, e) }

func (m *model) fail(code api.Code) {
	m.over = true
	for _, x := range m.active {
		x.there = false
	}
	m.queue = append(m.queue, away(m.highest, code))
	m.tell(over(code))
	panic(stopped{})
}

func (m *model) push(f api.Frame) {
	if len(m.queue) == m.k.Room {
		m.fail(11)
	}
	m.queue = append(m.queue, f)
}

// isLate lets an id be late.
func (m *model) isLate(id int) {
	m.late = append(m.late, id)
	m.late = m.late[max(0, len(m.late)-m.k.Memory):]
}

// ends closes a stream, and tells the peer.
func (m *model) ends(id int, code api.Code) {
	delete(m.active, id)
	m.isLate(id)
	m.push(reset(id, code))
}

func (m *model) failStream(id int, code api.Code) {
	m.ends(id, code)
	m.tell(failed(id, code))
}

func (m *model) credit(n int) {
	if n > 0 {
		m.in += n
		m.push(grow(0, n))
	}
}

func (m *model) count(kind int) {
	m.counts[kind]++
	if m.counts[kind] > m.k.Limits[kind] {
		m.fail(11)
	}
}

func (m *model) kind(id int) string {
	switch {
	case m.active[id] != nil:
		return "active"
	case slices.Contains(m.late, id):
		return "late"
	case id%2 == 1 && id > 0 && id <= m.highest:
		return "past"
	}
	return "idle"
}

// goes lets a stream go that is closed now.
func (m *model) goes(id int) {
	if m.active[id].peerDone && m.active[id].ownDone {
		delete(m.active, id)
	}
}

// frame is what is told of a frame.
func (m *model) frame(f api.Frame) []core.Event {
	if m.over {
		return nil
	}
	return m.happens(func() { m.come(f) })
}

func (m *model) come(f api.Frame) {
	if !m.greeted && (f.Kind != 4 || f.Flags&1 == 1) {
		m.fail(1)
	}
	if (m.block != nil) != (f.Kind == 9) || m.block != nil && m.block.id != f.Stream {
		m.fail(1)
	}
	p, fault, ok := payload.Read(f)
	if !ok {
		if kind := m.kind(fault.Stream); fault.Stream == 0 || kind == "idle" {
			m.fail(fault.Code)
		} else if kind == "active" {
			m.failStream(fault.Stream, fault.Code)
		}
		return
	}
	switch f.Kind {
	case 0:
		m.data(f.Stream, p)
	case 1:
		m.counts[5] = 0
		m.block = &under{id: f.Stream, end: p.End}
		m.goOn(p)
	case 3:
		m.reset(f.Stream, api.Code(p.Code))
	case 4:
		m.asked(p)
	case 6:
		if !p.Acked {
			m.count(1)
			m.push(ack(6, p.Bytes...))
		}
	case 7:
		m.tell(leaves(p.Last, api.Code(p.Code)))
	case 8:
		m.update(f.Stream, p.Add)
	case 9:
		m.count(5)
		m.goOn(p)
	}
}

func (m *model) data(id int, p payload.Parts) {
	if p.Flow > m.in {
		m.fail(3)
	}
	m.in -= p.Flow
	if len(p.Bytes) == 0 && !p.End {
		m.count(3)
	}
	switch m.kind(id) {
	case "idle":
		m.fail(1)
	case "past":
		m.fail(5)
	case "late":
		m.credit(p.Flow)
	case "active":
		m.body(id, p)
	}
}

func (m *model) body(id int, p payload.Parts) {
	x := m.active[id]
	x.got += len(p.Bytes)
	var code api.Code
	switch {
	case x.peerDone:
		code = 5
	case p.Flow > x.in:
		code = 3
	case x.want >= 0 && (x.got > x.want || p.End && x.got < x.want):
		code = 1
	}
	if code != 0 {
		m.credit(p.Flow)
		m.failStream(id, code)
		return
	}
	x.in -= p.Flow
	x.peerDone = p.End
	m.tell(body(id, p.End, p.Bytes...))
	m.credit(p.Flow)
	if !p.End && p.Flow > 0 {
		x.in += p.Flow
		m.push(grow(id, p.Flow))
	}
	m.goes(id)
}

func (m *model) goOn(p payload.Parts) {
	m.block.bytes = append(m.block.bytes, p.Bytes...)
	if len(m.block.bytes) > m.k.List+16384 {
		m.fail(11)
	}
	if !p.Whole {
		return
	}
	u := m.block
	m.block = nil
	l, cut, e := m.decoder.Decode(u.bytes, m.k.List)
	switch {
	case e != api.OK:
		m.fail(9)
	case u.id%2 == 0:
		m.fail(1)
	}
	switch m.kind(u.id) {
	case "past":
		m.fail(5)
	case "active":
		m.trailers(u.id, l, cut, u.end)
	case "idle":
		m.request(u.id, l, cut, u.end)
	}
}

func (m *model) trailers(id int, l []api.Field, cut, last bool) {
	x := m.active[id]
	switch {
	case x.peerDone:
		m.failStream(id, 5)
	case !last:
		m.failStream(id, 1)
	case cut:
		m.failStream(id, 11)
	case !request.Trailers(l) || x.want >= 0 && x.got != x.want:
		m.failStream(id, 1)
	default:
		x.peerDone = true
		m.tell(trailers(id, last, l))
		m.goes(id)
	}
}

func (m *model) request(id int, l []api.Field, cut, last bool) {
	if m.leaving {
		return
	}
	m.highest = id
	want := request.Length(l)
	switch {
	case len(m.active) == m.k.Streams:
		m.isLate(id)
		m.push(reset(id, 7))
	case cut:
		m.ends(id, 11)
	case !request.Request(l) || last && want > 0:
		m.ends(id, 1)
	default:
		m.active[id] = &told{peerDone: last, in: m.k.Window, want: want, there: true, window: m.window}
		m.tell(asked(id, last, l))
	}
}

func (m *model) reset(id int, code api.Code) {
	kind := m.kind(id)
	if kind == "idle" {
		m.fail(1)
	}
	m.count(0)
	if kind == "active" {
		delete(m.active, id)
		m.tell(gone(id, code))
	}
}

func (m *model) asked(p payload.Parts) {
	if p.Acked {
		return
	}
	m.greeted = true
	m.count(2)
	w := m.window
	for _, x := range p.Pairs {
		switch {
		case x.ID == 2 && x.Value > 1:
			m.fail(1)
		case x.ID == 4 && x.Value > 2147483647:
			m.fail(3)
		case x.ID == 5 && (x.Value < 16384 || x.Value > 16777215):
			m.fail(1)
		case x.ID == 4:
			w = x.Value
		}
	}
	for _, x := range m.active {
		if x.there && x.window+w-m.window > 2147483647 {
			m.fail(3)
		}
	}
	for _, x := range m.active {
		x.window += w - m.window
	}
	m.window = w
	m.push(ack(4))
}

func (m *model) update(id, n int) {
	m.count(4)
	if id == 0 {
		if m.out+n > 2147483647 {
			m.fail(3)
		}
		m.out += n
		return
	}
	switch m.kind(id) {
	case "idle":
		m.fail(1)
	case "active":
		x := m.active[id]
		if x.there && x.window+n > 2147483647 {
			m.failStream(id, 3)
		}
		x.window += n
	}
}

// broken is what is told of a failing from outside.
func (m *model) broken(code api.Code) []core.Event {
	if m.over {
		return nil
	}
	return m.happens(func() { m.fail(code) })
}

func (m *model) tick() { m.counts = [6]int{5: m.counts[5]} }

// error is that of a call of an active stream.
func (m *model) error(id int) api.Errno {
	switch {
	case m.over:
		return api.ErrOver
	case m.active[id] == nil:
		return api.ErrNone
	}
	return api.OK
}

func (m *model) respond(id int, l []api.Field, last bool) api.Errno {
	if e := m.error(id); e != api.OK {
		return e
	}
	b, e := block.Encode(l, true)
	x := m.active[id]
	switch {
	case !request.Response(l) || e != api.OK || len(b) > 16384:
		return api.ErrArg
	case !x.there || x.headSaid:
		return api.ErrState
	}
	x.head, x.headSaid, x.last = b, true, last
	return api.OK
}

func (m *model) say(id int, b []byte, last bool) api.Errno {
	if e := m.error(id); e != api.OK {
		return e
	}
	x := m.active[id]
	switch {
	case !x.there || !x.headSaid || x.last:
		return api.ErrState
	case m.held().Waiting+len(b) > m.k.Cap:
		return api.ErrFull
	}
	x.said, x.last = slices.Concat(x.said, b), last
	return api.OK
}

func (m *model) resets(id int, code api.Code) ([]core.Event, api.Errno) {
	if e := m.error(id); e != api.OK {
		return nil, e
	}
	if code < 0 || code > 4294967295 {
		return nil, api.ErrArg
	}
	return m.happens(func() { m.ends(id, code) }), api.OK
}

func (m *model) shutdown() ([]core.Event, api.Errno) {
	switch {
	case m.over:
		return nil, api.ErrOver
	case m.leaving:
		return nil, api.ErrState
	}
	m.leaving = true
	return m.happens(func() { m.push(away(m.highest, 0)) }), api.OK
}

func (m *model) pull() (api.Frame, bool) {
	if len(m.queue) > 0 {
		f := m.queue[0]
		m.queue = m.queue[1:]
		return f, true
	}
	for _, id := range m.ids() {
		if f, ok := m.next(id); ok {
			return f, true
		}
	}
	return api.Frame{}, false
}

// next is the frame of a stream that is sent, if it has one.
func (m *model) next(id int) (api.Frame, bool) {
	x := m.active[id]
	left := len(x.said) - x.went
	count := min(m.out, 16384, x.window, left)
	f := api.Frame{Stream: id}
	switch {
	case !x.there || !x.headSaid:
		return api.Frame{}, false
	case !x.headWent:
		f.Kind, f.Flags, f.Payload = 1, 4, x.head
		x.headWent = true
	case left > 0 && count > 0:
		f.Payload = x.said[x.went : x.went+count]
		x.went += count
		x.window -= count
		m.out -= count
		left -= count
	case left > 0 || !x.last:
		return api.Frame{}, false
	}
	if x.last && left == 0 {
		f.Flags |= 1
		x.ownDone, x.there = true, false
		m.goes(id)
	}
	return f, true
}

func (m *model) ids() []int { return slices.Sorted(maps.Keys(m.active)) }

func (m *model) done() bool {
	return len(m.queue) == 0 && (m.over || m.leaving && len(m.active) == 0)
}

func (m *model) held() core.Held {
	h := core.Held{Table: m.decoder.Size(), Frames: len(m.queue), Streams: len(m.active), Late: len(m.late)}
	if m.block != nil {
		h.Block = len(m.block.bytes)
	}
	for _, f := range m.queue {
		h.Control += len(f.Payload)
	}
	for _, x := range m.active {
		if x.there {
			h.Waiting += len(x.said) - x.went
		}
		if x.there && x.headSaid && !x.headWent {
			h.Heads += len(x.head)
		}
	}
	return h
}

// The calls that change something.
const (
	come = iota
	broken
	tick
	respond
	say
	end
	shutdown
	pull
)

// step is a call, with what it is given: as much of this as it takes.
type step struct {
	call  int
	frame api.Frame
	id, n int
	list  []api.Field
	bytes []byte
	last  bool
}

// do lets a step happen to a core, which ought to answer as it is told.
func (x step) do(t *testing.T, c *core.Core, m *model) {
	t.Helper()
	switch x.call {
	case come:
		comes(t, c, x.frame, m.frame(x.frame)...)
	case broken:
		tells(t, "Broken", c.Broken(api.Code(x.n)), m.broken(api.Code(x.n)))
	case tick:
		c.Tick()
		m.tick()
	case respond:
		responds(t, c, x.id, x.list, x.last, m.respond(x.id, x.list, x.last))
	case say:
		says(t, c, x.id, x.bytes, x.last, m.say(x.id, x.bytes, x.last))
	case end:
		l, e := m.resets(x.id, api.Code(x.n))
		resets(t, c, x.id, api.Code(x.n), e, l...)
	case shutdown:
		l, e := m.shutdown()
		shuts(t, c, e, l...)
	case pull:
		want, there := m.pull()
		if f, ok := c.Pull(); ok != there || !same(f, want) {
			t.Errorf("Pull is %v, %t, not %v, %t", f, ok, want, there)
		}
	}
	m.holds(t, c)
}

// holds tells whether a core has just what the model has.
func (m *model) holds(t *testing.T, c *core.Core) {
	t.Helper()
	has(t, c, m.held(), m.ids()...)
	windows(t, c, m.in, m.out)
	if c.Over() != m.over || c.Done() != m.done() {
		t.Errorf("over %t, done %t, not %t, %t", c.Over(), c.Done(), m.over, m.done())
	}
}

// replay lets steps happen to a new core of a configuration.
func replay(t *testing.T, k core.Config, steps []step) {
	t.Helper()
	c, m := made(t, k), newModel(k)
	for _, x := range steps {
		x.do(t, c, m)
	}
	if t.Failed() {
		t.Fatalf("configuration %v, steps %v", k, steps)
	}
}

// ways lets all ways of so many more steps happen.
func ways(t *testing.T, k core.Config, done, all []step, left int) {
	t.Helper()
	if left == 0 {
		replay(t, k, done)
		return
	}
	for _, x := range all {
		ways(t, k, append(done, x), all, left-1)
	}
}

// same tells whether two frames are one.
func same(f, g api.Frame) bool {
	return f.Kind == g.Kind && f.Flags == g.Flags && f.Stream == g.Stream && bytes.Equal(f.Payload, g.Payload)
}
