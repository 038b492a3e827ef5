package engine_test

import (
	"bytes"
	"encoding/binary"
	"slices"
	"testing"

	"gantlet/api"
	"gantlet/core"
)

// connection is what an engine, and its model, have.
type connection interface {
	Feed(b []byte) []core.Event
	Respond(id int, l []api.Field, last bool) api.Errno
	Data(id int, b []byte, last bool) api.Errno
	Reset(id int, code api.Code) ([]core.Event, api.Errno)
	Shutdown() ([]core.Event, api.Errno)
	Tick()
	Drain(n int) []byte
	Over() bool
	Done() bool
	Core() *core.Core
	Kept() (int, int)
}

// model is the document's words, told again, over a core: all bytes that came, and all
// that go, are kept for good.
type model struct {
	c *core.Core
	// came are bytes, of which so many were told.
	came []byte
	told int
	// all are bytes, of which so many went.
	all  []byte
	went int
}

// newModel is one of a configuration.
func newModel(k core.Config) *model {
	c, _ := core.New(k)
	return &model{c: c}
}

// begun tells whether the preface has come, and whether a byte of it differs.
func (m *model) begun() (bool, bool) {
	for i, b := range m.came[:min(24, len(m.came))] {
		if preface[i] != b {
			return false, true
		}
	}
	return len(m.came) >= 24, false
}

// next is the frame that comes next, and whether it is there; or the code of what is
// wrong with it.
func (m *model) next() (api.Frame, bool, api.Code) {
	begun, differs := m.begun()
	switch {
	case differs:
		return api.Frame{}, false, 1
	case !begun:
		return api.Frame{}, false, 0
	}
	m.told = max(m.told, 24)
	rest := m.came[m.told:]
	if len(rest) < 9 {
		return api.Frame{}, false, 0
	}
	length := int(binary.BigEndian.Uint32(rest) >> 8)
	switch {
	case length > 16384:
		return api.Frame{}, false, 6
	case len(rest) < 9+length:
		return api.Frame{}, false, 0
	}
	m.told += 9 + length
	stream := int(binary.BigEndian.Uint32(rest[5:]) << 1 >> 1)
	return api.Frame{Kind: api.Kind(rest[3]), Flags: int(rest[4]), Stream: stream, Payload: slices.Clone(rest[9 : 9+length])}, true, 0
}

func (m *model) Feed(b []byte) []core.Event {
	if m.Over() {
		return nil
	}
	m.came = append(m.came, b...)
	var l []core.Event
	for !m.Over() {
		f, there, code := m.next()
		switch {
		case there:
			l = append(l, m.c.Frame(f)...)
		case code != 0:
			l = append(l, m.c.Broken(code)...)
		default:
			return l
		}
	}
	return l
}

func (m *model) Respond(id int, l []api.Field, last bool) api.Errno { return m.c.Respond(id, l, last) }

func (m *model) Data(id int, b []byte, last bool) api.Errno { return m.c.Data(id, b, last) }

func (m *model) Reset(id int, code api.Code) ([]core.Event, api.Errno) { return m.c.Reset(id, code) }

func (m *model) Shutdown() ([]core.Event, api.Errno) { return m.c.Shutdown() }

func (m *model) Tick() { m.c.Tick() }

func (m *model) Over() bool { return m.c.Over() }

func (m *model) Core() *core.Core { return m.c }

// waits is how many bytes do.
func (m *model) waits() int { return len(m.all) - m.went }

func (m *model) Drain(n int) []byte {
	for m.waits() < n {
		f, ok := m.c.Pull()
		if !ok {
			break
		}
		m.all = append(m.all, laid(f)...)
	}
	first := m.went
	m.went += max(0, min(n, m.waits()))
	return slices.Clone(m.all[first:m.went])
}

func (m *model) Done() bool { return m.c.Done() && m.waits() == 0 }

func (m *model) Kept() (int, int) {
	if m.Over() {
		return 0, m.waits()
	}
	return len(m.came) - m.told, m.waits()
}

// The calls that change something.
const (
	feed = iota
	respond
	say
	end
	shutdown
	tick
	drain
)

// step is a call, with what it is given: as much of this as it takes.
type step struct {
	call  int
	bytes []byte
	id, n int
	list  []api.Field
	last  bool
}

// answer is what is told of a step, and how things stand behind it.
type answer struct {
	events     []core.Event
	errno      api.Errno
	bytes      []byte
	in, out    int
	held       core.Held
	active     []int
	over, done bool
}

// same tells whether two answers are one.
func (a answer) same(b answer) bool {
	return slices.EqualFunc(a.events, b.events, sameEvent) && a.errno == b.errno && bytes.Equal(a.bytes, b.bytes) && a.in == b.in && a.out == b.out &&
		a.held == b.held && slices.Equal(a.active, b.active) && a.over == b.over && a.done == b.done
}

// do is what a connection answers on a step; what is fed is cut.
func (x step) do(c connection, cut func([]byte) [][]byte) answer {
	var a answer
	switch x.call {
	case feed:
		for _, b := range cut(x.bytes) {
			a.events = append(a.events, c.Feed(b)...)
		}
	case respond:
		a.errno = c.Respond(x.id, x.list, x.last)
	case say:
		a.errno = c.Data(x.id, x.bytes, x.last)
	case end:
		a.events, a.errno = c.Reset(x.id, api.Code(x.n))
	case shutdown:
		a.events, a.errno = c.Shutdown()
	case tick:
		c.Tick()
	case drain:
		a.bytes = c.Drain(x.n)
	}
	a.in, a.out = c.Kept()
	a.held, a.active = c.Core().Held(), c.Core().Active()
	a.over, a.done = c.Over(), c.Done()
	return a
}

// agrees tells whether an engine and its model answer a step alike; it is what they
// answer.
func agrees(t *testing.T, c, m connection, x step, cut func([]byte) [][]byte) answer {
	t.Helper()
	a, want := x.do(c, cut), x.do(m, whole)
	if !a.same(want) {
		t.Fatalf("of %s is answered %s, not %s", short(x), short(a), short(want))
	}
	return want
}

// whole is bytes, not cut.
func whole(b []byte) [][]byte { return [][]byte{b} }

// single is bytes, each by itself.
func single(b []byte) [][]byte {
	var l [][]byte
	for i := range b {
		l = append(l, b[i:i+1])
	}
	return l
}

// by cuts bytes into pieces of a size.
func by(size int) func([]byte) [][]byte {
	return func(b []byte) [][]byte { return slices.Collect(slices.Chunk(b, size)) }
}
