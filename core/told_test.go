package core_test

import (
	"math"
	"math/rand"
	"runtime"
	"slices"
	"strings"
	"testing"

	"gantlet/api"
	"gantlet/core"
)

// frames are steps of frames that come.
func frames(l ...api.Frame) []step {
	var out []step
	for _, f := range l {
		out = append(out, step{call: come, frame: f})
	}
	return out
}

// P21.1, P21.2: all ways of 3 steps, behind a greeting, and with two streams.
func TestTold(t *testing.T) {
	b := blockOf(get)
	all := append(frames(
		asks(4, 2), asks(4, mostWindow, 2, 2), ping(run(0, 8)...), away(5, 7), grow(0, 3), grow(3, 3), grow(1, mostWindow), data(1, 0, 7), data(1, 9, 1, 8, 0),
		data(3, 0), data(3, 1, 1, 2, 3), data(5, 1, 9), headers(1, 5), headers(3, 1, 0, 1), more(3, 4, 97, 0), more(3, 0), headers(5, 5, b...), headers(5, 0, b...),
		more(5, 4), headers(5, 4, 130), reset(3, 8), reset(1, 5), priority(1, 1),
	), []step{
		{call: broken, n: 9}, {call: tick}, {call: respond, id: 1, list: yes}, {call: respond, id: 3, list: yes, last: true}, {call: say, id: 1, bytes: run(0, 3), last: true},
		{call: end, id: 1, n: 8}, {call: shutdown}, {call: pull},
	}...)
	first := frames(asks(), headers(1, 4, b...), headers(3, 4, blockOf(post("2"))...))
	k := core.Config{Table: 50, List: 200, Streams: 2, Window: 2, Room: 3, Cap: 5, Memory: 1, Limits: [6]int{1, 1, 2, 1, 1, 1}}
	ways(t, k, nil, all, 2)
	ways(t, k, append(first[:1:1], step{call: pull}, step{call: pull}), all, 3)
	ways(t, k, append(first, step{call: pull}, step{call: pull}), all, 3)
	k.Room, k.Streams, k.Memory = 2, 3, 0
	ways(t, k, append(first, step{call: respond, id: 1, list: yes}, step{call: pull}, step{call: pull}, step{call: pull}), all, 3)
}

// pick is one of some things.
func pick[T any](r *rand.Rand, l ...T) T { return l[r.Intn(len(l))] }

// someConfig is a configuration, of which at times much has little room.
func someConfig(r *rand.Rand) core.Config {
	k := core.Config{
		Table: pick(r, 0, 40, 100, 4096), List: pick(r, 124, 130, 200, 1000, 65535), Streams: pick(r, 1, 2, 3, 5, 100), Window: pick(r, 0, 3, 10, 20, 65535),
		Room: pick(r, 1, 2, 4, 8, 64), Cap: pick(r, 0, 5, 30, 65535), Memory: pick(r, 0, 1, 2, 5, 100),
	}
	for i := range k.Limits {
		k.Limits[i] = pick(r, 0, 1, 2, 3, 5, 10000, 10000, 10000)
	}
	if r.Intn(2) == 0 {
		k.Room = max(k.Room, 8)
		for i := range k.Limits {
			k.Limits[i] = max(k.Limits[i], 5)
		}
	}
	return k
}

// source is what steps come of, that suit a model most often.
type source struct {
	*rand.Rand
	m *model
	// rest is what has not come of the block under way.
	rest []byte
}

// rarely tells, once in so many times, that something is.
func (s *source) rarely(times int) bool { return s.Intn(times) == 0 }

// block is one of a request, or of trailers, at times one of neither, or none.
func (s *source) block() []byte {
	if s.rarely(150) {
		return run(s.Intn(256), s.Intn(9))
	}
	l := get
	switch s.Intn(12) {
	case 0:
		l = append(slices.Clone(get), list("a", strings.Repeat("b", s.Intn(200)))...)
	case 1, 2, 3:
		l = post(pick(s.Rand, "0", "1", "2", "5", "7", "x"))
	case 4:
		if n := min(len(s.m.decoder.Table()), 3); n > 0 {
			return []byte{130, 135, byte(190 + s.Intn(n))}
		}
	case 5, 6:
		return []byte{130, 135, 68, 1, byte('a' + s.Intn(4))}
	case 7:
		return slices.Concat([]byte{32}, blockOf(get))
	case 8:
		l = pick(s.Rand, nil, get[1:], list("a", "b"), list("content-length", "5"))
	}
	return blockOf(l)
}

// trailers is a block of such, most often.
func (s *source) trailers() []byte {
	return blockOf(pick(s.Rand, nil, list("a", "b"), list("a", "b", "c", "d"), list("content-length", "5"), list("a", strings.Repeat("b", s.Intn(300))), get))
}

// next is the least id that is idle.
func (s *source) next() int { return s.m.highest + 1 + s.m.highest%2 }

// id is that of a stream that there is, or was.
func (s *source) id() int {
	ids := s.m.ids()
	switch {
	case s.rarely(150):
		return pick(s.Rand, 0, 2, s.next(), s.m.highest+1, s.m.highest+4, mostID, mostID-1)
	case s.rarely(100) && s.m.highest > 0:
		return 1 + 2*s.Intn(1+s.m.highest/2)
	case len(s.m.late) > 0 && (len(ids) == 0 || s.rarely(6)):
		return pick(s.Rand, s.m.late...)
	case len(ids) > 0:
		return pick(s.Rand, ids...)
	}
	return max(s.m.highest, s.rare(1))
}

// rare is a number, or, rarely, one of any size.
func (s *source) rare(n int) int {
	if s.rarely(300) {
		return number(s.Rand)
	}
	return n
}

// padded is a frame that is padded at times.
func (s *source) padded(f api.Frame) api.Frame {
	if s.rarely(5) {
		n := s.Intn(5)
		f.Flags |= 8
		f.Payload = slices.Concat([]byte{byte(n)}, f.Payload, make([]byte, n))
	}
	return f
}

// piece is some of the rest of the block, and the flag 4, if that is all.
func (s *source) piece() ([]byte, int) {
	n := len(s.rest)
	if s.rarely(3) {
		n = s.Intn(n + 1)
	}
	b := s.rest[:n]
	s.rest = s.rest[n:]
	if len(s.rest) == 0 && !s.rarely(5) || s.rarely(200) {
		return b, 4
	}
	return b, 0
}

// headers is what begins a block, of the next stream most often, or of one that there is.
func (s *source) headers() api.Frame {
	id, end := s.next(), s.Intn(4)/3
	s.rest = s.block()
	if other := s.id(); s.rarely(4) && (s.m.kind(other) != "past" || s.rarely(20)) {
		id = other
	}
	if s.m.active[id] != nil {
		s.rest, end = s.trailers(), min(s.Intn(6), 1)
	}
	b, whole := s.piece()
	flags := end | whole
	if s.rarely(8) {
		flags |= 32
		b = slices.Concat(num(id+2), []byte{9}, b)
	}
	return s.padded(headers(id, flags, b...))
}

// asks are Settings of one pair, or two.
func (s *source) asks() api.Frame {
	if s.rarely(20) {
		return asks(pick(s.Rand, 2, 4, 5), pick(s.Rand, 0, 1, 2, 100, 16384, mostWindow, mostWindow+1))
	}
	return pick(s.Rand, asks(), asks(4, s.Intn(50)), asks(4, pick(s.Rand, 0, 65535, 100000), 5, 16384+s.Intn(100)), asks(1, 0, 3, 1, 9, 7))
}

// data is bytes, as many as there is room for most often.
func (s *source) data() api.Frame {
	id := s.id()
	n := pick(s.Rand, 0, 1, 1, 2, 3, 5, 12, 21)
	if x := s.m.active[id]; x != nil && s.Intn(4) > 0 {
		n = min(n, x.in)
		if x.want >= 0 && s.Intn(4) > 0 {
			n = min(n, x.want-x.got)
		}
	}
	return s.padded(data(id, pick(s.Rand, 0, 0, 0, 1), run(s.Intn(256), max(n, 0))...))
}

// frame is one that comes.
func (s *source) frame() api.Frame {
	if s.rarely(400) {
		return api.Frame{Kind: api.Kind(s.Intn(12)), Flags: s.Intn(260), Stream: s.Intn(9), Payload: run(0, s.Intn(12))}
	}
	if !s.m.greeted {
		return s.asks()
	}
	if s.m.block != nil {
		b, whole := s.piece()
		return more(s.m.block.id, whole, b...)
	}
	id := s.id()
	if s.m.kind(id) != "active" && s.m.kind(id) != "late" && !s.rarely(20) {
		return s.headers()
	}
	switch s.Intn(30) {
	case 0:
		return s.asks()
	case 1:
		return pick(s.Rand, ack(4), ping(run(9, 8)...), ack(6, run(9, 8)...), away(s.Intn(9), api.Code(s.Intn(12))), api.Frame{Kind: 10, Stream: id})
	case 2:
		return pick(s.Rand, priority(id, id+2), priority(id, id), grow(max(id, 1), 0), api.Frame{Kind: 2, Stream: id})
	case 3:
		return reset(id, api.Code(s.Intn(13)))
	case 4, 5:
		return grow(pick(s.Rand, 0, id, id), pick(s.Rand, 1, 2, 10, 1000))
	case 6:
		return grow(pick(s.Rand, id, id, id, id, id, id, id, 0), pick(s.Rand, mostWindow, mostWindow-begin, mostWindow-begin+1, mostWindow-20))
	case 7, 8, 9, 10, 11, 12, 13, 14, 15, 16:
		return s.data()
	}
	return s.headers()
}

// step is one, with which at times something is wrong.
func (s *source) step() step {
	x := step{id: s.id(), last: s.rarely(4)}
	switch s.Intn(24) {
	case 0, 1:
		x.call = tick
	case 2, 3, 4:
		x.call, x.list = respond, pick(s.Rand, yes, yes, yes, list(":status", "204", "a", "b"), get, nil)
	case 5, 6, 7:
		x.call, x.bytes = say, run(s.Intn(256), pick(s.Rand, 0, 1, 3, 6, 40))
	case 8:
		x.call, x.n = end, pick(s.Rand, 0, 8, 8, mostCode, mostCode+1, -1)
	case 9:
		switch s.Intn(60) {
		case 0:
			x.call = shutdown
		case 1:
			x.call, x.n = broken, pick(s.Rand, 0, 1, 6, mostCode)
		default:
			x.call = tick
		}
	case 10, 11, 12, 13, 14, 15:
		x.call = pull
	default:
		x.frame = s.frame()
	}
	return x
}

// P21.1, P21.2, P21.3: whatever comes, and is said, all is as the document's words, told
// again, have it.
func TestToldLong(t *testing.T) {
	r := rand.New(rand.NewSource(211))
	for range 6000 {
		k := someConfig(r)
		c, m := made(t, k), newModel(k)
		s := source{Rand: r, m: m}
		left := 200
		for left > 0 {
			s.step().do(t, c, m)
			left--
			if m.over {
				left = min(left, 20)
			}
		}
		for f, ok := c.Pull(); ok; f, ok = c.Pull() {
			if want, there := m.pull(); !there || !same(f, want) {
				t.Errorf("sent is %s, not %s, %t", short(f), short(want), there)
			}
		}
		m.holds(t, c)
		if t.Failed() {
			t.Fatalf("configuration %v", k)
		}
	}
}

// P21.2: behind Over no event comes, and the frames sent are those that were queued, and
// at last one GoAway with that code.
func TestOver(t *testing.T) {
	r := rand.New(rand.NewSource(212))
	for range 2000 {
		k := someConfig(r)
		c, m := made(t, k), newModel(k)
		s := source{Rand: r, m: m}
		for !c.Over() {
			if r.Intn(2) == 0 {
				sends(t, c, m.queue...)
				m.queue = nil
			}
			f := s.frame()
			m.frame(f)
			l := c.Frame(f)
			i := slices.IndexFunc(l, func(e core.Event) bool { return e.Kind == core.Over })
			if c.Over() != (i >= 0) || c.Over() && i < len(l)-1 {
				t.Fatalf("of %s is told %s, over %t", short(f), short(l), c.Over())
			}
			if c.Over() {
				lastOf(t, c, s, l[i].Code)
			}
			if r.Intn(3) == 0 {
				c.Tick()
				m.tick()
			}
		}
	}
}

// lastOf tells whether a core that is over sends what is queued, and is over for good.
func lastOf(t *testing.T, c *core.Core, s source, code api.Code) {
	t.Helper()
	count := c.Held().Frames
	for range 5 {
		comes(t, c, s.frame())
	}
	tells(t, "Broken", c.Broken(code+1), nil)
	sent := emptied(c)
	if len(sent) != count {
		t.Fatalf("%d frames are sent, not %d", len(sent), count)
	}
	for i, f := range sent[:count-1] {
		if !same(f, s.m.queue[i]) || f.Kind == api.GoAway {
			t.Errorf("sent is %s", short(f))
		}
	}
	if f := sent[count-1]; !same(f, away(s.m.highest, code)) {
		t.Errorf("the last one is %s, the code %d", short(f), code)
	}
	if !c.Done() || !c.Over() {
		t.Error("not done")
	}
}

// P21.3: calls with an error change nothing: a core with them, and one without, do alike.
func TestErrorsChangeNothing(t *testing.T) {
	wrong := func(c *core.Core, id int) {
		long := append(slices.Clone(yes), list("a", strings.Repeat("\x01", 20000))...)
		responds(t, c, id, long, true, api.ErrArg)
		responds(t, c, id, get, true, api.ErrArg)
		responds(t, c, 77, yes, true, api.ErrNone)
		says(t, c, 77, []byte{1}, true, api.ErrNone)
		resets(t, c, 77, 1, api.ErrNone)
		resets(t, c, id, -1, api.ErrArg)
		resets(t, c, id, mostCode+1, api.ErrArg)
	}
	serve := func(c *core.Core, worse bool) []api.Frame {
		also := func(id int) {
			if worse {
				wrong(c, id)
			}
		}
		also(1)
		says(t, c, 1, []byte{1}, true, api.ErrState)
		responds(t, c, 1, yes, false, api.OK)
		also(1)
		if worse {
			responds(t, c, 1, yes, true, api.ErrState)
			says(t, c, 1, run(0, 31), true, api.ErrFull)
		}
		says(t, c, 1, run(0, 9), false, api.OK)
		also(1)
		shuts(t, c, api.OK)
		also(3)
		if worse {
			shuts(t, c, api.ErrState)
		}
		says(t, c, 1, run(0, 9), true, api.OK)
		also(1)
		if worse {
			says(t, c, 1, nil, true, api.ErrState)
		}
		resets(t, c, 3, 8, api.OK)
		also(1)
		return emptied(c)
	}
	x, y := greeted(t, small(), 1, 3), greeted(t, small(), 1, 3)
	if l, want := serve(x, true), serve(y, false); !slices.EqualFunc(l, want, same) {
		t.Errorf("sent is %s, not %s", short(l), short(want))
	}
	has(t, x, y.Held(), y.Active()...)
	in, out := y.Windows()
	windows(t, x, in, out)
}

// number is one of any size.
func number(r *rand.Rand) int {
	n := int(r.Uint64() >> r.Intn(64))
	if r.Intn(3) == 0 {
		return -n
	}
	return n
}

// anyFrame is one of any numbers.
func anyFrame(r *rand.Rand) api.Frame {
	f := api.Frame{Kind: api.Kind(r.Intn(11)), Flags: r.Intn(256), Stream: r.Intn(12), Payload: make([]byte, r.Intn(20))}
	r.Read(f.Payload)
	switch r.Intn(40) {
	case 0:
		f.Kind = api.Kind(number(r))
	case 1:
		f.Flags = number(r)
	case 2:
		f.Stream = number(r)
	}
	return f
}

// P1: every call ends, and none panics, at all arguments, on every core that was given, a
// nil one too.
func TestNoPanic(t *testing.T) {
	r := rand.New(rand.NewSource(1))
	for i := range 4000 {
		k := someConfig(r)
		if i%3 == 0 {
			*pick(r, numberOf...).of(&k) = number(r)
		}
		c, e := core.New(k)
		if (c == nil) != !core.Right(k) || (c == nil) != (e == api.ErrArg) {
			t.Fatalf("New(%v) is %v, %d", k, c, e)
		}
		c.Frame(asks())
		for range 60 {
			id := pick(r, 1, 3, 5, r.Intn(12), number(r))
			switch r.Intn(12) {
			case 0:
				c.Respond(id, pick(r, yes, nil, []api.Field{{}}, list(":status", "200", "a", strings.Repeat("\xff", r.Intn(1<<10)))), r.Intn(2) == 0)
			case 1:
				c.Data(id, make([]byte, r.Intn(99)), r.Intn(2) == 0)
			case 2:
				c.Reset(id, api.Code(number(r)))
			case 3:
				c.Pull()
			case 4:
				c.Tick()
			case 5:
				c.Frame(headers(id, 4, blockOf(get)...))
			case 6:
				c.Active()
				c.Windows()
			default:
				c.Frame(anyFrame(r))
			}
		}
		c.Shutdown()
		c.Broken(api.Code(number(r)))
		emptied(c)
		if c.Over() != (c != nil) || c.Done() != (c != nil) {
			t.Fatalf("over %t, done %t", c.Over(), c.Done())
		}
	}
}

// P2: the same calls are answered alike, whatever happens to other cores; asking what there
// is changes nothing.
func TestSameAgain(t *testing.T) {
	r := rand.New(rand.NewSource(2))
	for range 300 {
		k := someConfig(r)
		x, y, other := made(t, k), made(t, k), made(t, k)
		m, again, others := newModel(k), newModel(k), newModel(k)
		s, elsewhere := source{Rand: r, m: m}, source{Rand: r, m: others}
		for range 100 {
			a := s.step()
			a.do(t, x, m)
			elsewhere.step().do(t, other, others)
			a.do(t, y, again)
			for range r.Intn(3) {
				has(t, y, x.Held(), x.Active()...)
			}
		}
	}
}

// spoil writes into a list, and behind it.
func spoil[T any](l []T, with T) {
	l = l[:cap(l)]
	for i := range l {
		l[i] = with
	}
}

// handed is a frame whose payload stands in more memory, that whoever handed it in makes
// another one behind the call.
func handed(t *testing.T, c *core.Core, f api.Frame, want ...core.Event) {
	t.Helper()
	memory := append(slices.Clone(f.Payload), 0xaa, 0xaa, 0xaa, 0xaa)
	all := slices.Clone(memory)
	f.Payload = memory[:len(f.Payload)]
	comes(t, c, f, want...)
	if !slices.Equal(memory, all) {
		t.Errorf("what was handed in became %v", memory)
	}
	spoil(memory, 0xee)
}

// P2: what is handed in is neither written into nor kept; what lies behind its length is
// neither read nor written.
func TestHandedIn(t *testing.T) {
	c := made(t, small())
	b := blockOf(get)
	handed(t, c, asks(4, 2))
	handed(t, c, headers(1, 0, b[:1]...))
	handed(t, c, more(1, 0, b[1:2]...))
	handed(t, c, more(1, 4, b[2:]...), asked(1, false, get))
	handed(t, c, ping(run(0, 8)...))
	memory := run(7, 40)
	l := list(":status", "200", "a", "b", "c", "d")
	responds(t, c, 1, l[:2], false, api.OK)
	if !slices.Equal(l, list(":status", "200", "a", "b", "c", "d")) {
		t.Errorf("what was handed in became %v", l)
	}
	spoil(l, api.Field{Name: "x"})
	says(t, c, 1, memory[:9], false, api.OK)
	says(t, c, 1, memory[9:12], true, api.OK)
	if !slices.Equal(memory, run(7, 40)) {
		t.Errorf("what was handed in became %v", memory)
	}
	spoil(memory, 0xee)
	sends(
		t, c, asks(1, 200, 3, 3, 4, 20, 6, 300), ack(4), ack(6, run(0, 8)...), headers(1, 4, append([]byte{32}, blockOf(list(":status", "200", "a", "b"))...)...),
		data(1, 0, 7, 8),
	)
	handed(t, c, grow(1, 20))
	sends(t, c, data(1, 1, run(9, 10)...))
	handed(t, c, data(1, 0, 1, 2, 3), body(1, false, 1, 2, 3))
}

// P2: what is told, or sent, is new memory: whoever writes into it, or behind it, changes
// nothing that is told, or sent, later; and what comes later changes nothing of it.
func TestNewMemory(t *testing.T) {
	c := greeted(t, wide())
	var told [][]core.Event
	for id := 1; id < 12; id += 2 {
		l := c.Frame(headers(id, 4, 130, 135, 68, 1, 97))
		told = append(told, l)
		again := c.Frame(data(id, 0, 7, 8, 9))
		tells(t, "Data", again, []core.Event{body(id, false, 7, 8, 9)})
		comes(t, c, data(id, 0, 1, 2, 3), body(id, false, 1, 2, 3))
		tells(t, "Data", again, []core.Event{body(id, false, 7, 8, 9)})
		spoil(again[0].Bytes, 0xee)
		comes(t, c, data(id, 0, 4, 5, 6), body(id, false, 4, 5, 6))
		ids := c.Active()
		spoil(ids, 99)
		comes(t, c, headers(id, 5, 190), failed(id, 1))
		has(t, c, c.Held(), nil...)
		var sent [][]byte
		for f, ok := c.Pull(); ok; f, ok = c.Pull() {
			sent = append(sent, f.Payload)
			spoil(f.Payload, 0xee)
		}
		for _, b := range sent {
			if slices.ContainsFunc(b, func(x byte) bool { return x != 0xee }) {
				t.Errorf("what was sent became %v", b)
			}
		}
		tells(t, "Headers", l, []core.Event{asked(id, false, list(":method", "GET", ":scheme", "https", ":path", "a"))})
		if id > 5 {
			spoil(l[0].Fields, api.Field{Name: "x"})
			spoil(l, over(1))
		}
	}
	for i, l := range told[:3] {
		tells(t, "Headers", l, []core.Event{asked(1+2*i, false, list(":method", "GET", ":scheme", "https", ":path", "a"))})
	}
}

// inUse is how much memory is held, now that nothing else is.
func inUse() int {
	var m runtime.MemStats
	runtime.GC()
	runtime.ReadMemStats(&m)
	return int(m.HeapAlloc)
}

// lean tells whether a core is but little more memory than there was ahead.
func lean(t *testing.T, ahead int, c *core.Core) {
	t.Helper()
	if held := inUse() - ahead; held > 1<<20 {
		t.Errorf("%d bytes are held", held)
	}
	runtime.KeepAlive(c)
}

// Streams that are gone are not held on to, however they went, nor what was said of them.
func TestGoneIsLean(t *testing.T) {
	ahead := inUse()
	k := wide()
	k.Memory = 0
	c := greeted(t, k)
	for i := range 4000 {
		id := 1 + 2*i
		comes(t, c, headers(id, 4, blockOf(get)...), asked(id, false, get))
		responds(t, c, id, append(slices.Clone(yes), list("a", strings.Repeat("b", 9000))...), false, api.OK)
		says(t, c, id, make([]byte, 16384), false, api.OK)
		switch i % 4 {
		case 0:
			comes(t, c, reset(id, 0), gone(id, 0))
		case 1:
			resets(t, c, id, 0, api.OK)
		case 2:
			comes(t, c, headers(id, 4), failed(id, 1))
		default:
			says(t, c, id, nil, true, api.OK)
			comes(t, c, data(id, 1), body(id, true))
			comes(t, c, grow(0, 16384))
		}
		emptied(c)
		c.Tick()
		has(t, c, core.Held{})
	}
	lean(t, ahead, c)
}

// A block that was read is not held on to, nor what a core had to send that is over.
func TestReadIsLean(t *testing.T) {
	ahead := inUse()
	var all []*core.Core
	for range 40 {
		c := greeted(t, wide(), 1)
		comes(t, c, headers(3, 0, slices.Repeat([]byte{130}, 60000)...))
		comes(t, c, more(3, 4))
		responds(t, c, 1, append(slices.Clone(yes), list("a", strings.Repeat("b", 9000))...), false, api.OK)
		says(t, c, 1, make([]byte, 65535), true, api.OK)
		tells(t, "Broken", c.Broken(1), []core.Event{over(1)})
		all = append(all, c)
	}
	lean(t, ahead, all[0])
	runtime.KeepAlive(all)
}

// Of much memory no more is held than what comes.
func TestCameIsLean(t *testing.T) {
	ahead := inUse()
	c := greeted(t, wide())
	much := func(b ...byte) []byte { return append(make([]byte, 0, 1<<22), b...) }
	comes(t, c, api.Frame{Kind: 1, Flags: 4, Stream: 1, Payload: much(blockOf(get)...)}, asked(1, false, get))
	comes(t, c, api.Frame{Kind: 6, Payload: much(run(0, 8)...)})
	responds(t, c, 1, yes, false, api.OK)
	says(t, c, 1, much(1), false, api.OK)
	comes(t, c, api.Frame{Kind: 1, Stream: 3, Payload: much(130)})
	has(t, c, core.Held{Block: 1, Control: 8, Frames: 1, Waiting: 1, Heads: 2, Streams: 1}, 1)
	lean(t, ahead, c)
}

// Ids as great as may be.
func TestGreatestID(t *testing.T) {
	c := greeted(t, small(), 1, mostID-2, mostID)
	has(t, c, core.Held{Streams: 3}, 1, mostID-2, mostID)
	responds(t, c, mostID, yes, true, api.OK)
	shuts(t, c, api.OK)
	sends(t, c, away(mostID, 0), headers(mostID, 5, 32, 136))
	ends(t, c, mostID, headers(math.MaxInt, 5, blockOf(get)...), 2)
}
