package core_test

import (
	"slices"
	"strings"
	"testing"

	"gantlet/api"
	"gantlet/core"
)

// What the streams of states are.
const (
	isPast   = 1
	isLate   = 3
	peerDone = 5
	ownDone  = 7
	isOpen   = 9
	isIdle   = 11
)

// states is a core with streams of all kinds: one is past, one late, one active, whose
// peer has said all, one, of which all was sent, and one of which neither; the next one is
// idle. There is room for a window of 20 each.
func states(t *testing.T, k core.Config) *core.Core {
	t.Helper()
	c := greeted(t, k, isPast, isLate)
	comes(t, c, reset(isPast, 8), gone(isPast, 8))
	resets(t, c, isLate, 8, api.OK)
	comes(t, c, headers(peerDone, 5, blockOf(get)...), asked(peerDone, true, get))
	comes(t, c, headers(ownDone, 4, blockOf(get)...), asked(ownDone, false, get))
	comes(t, c, headers(isOpen, 4, blockOf(get)...), asked(isOpen, false, get))
	responds(t, c, ownDone, yes, true, api.OK)
	emptied(c)
	c.Tick()
	has(t, c, core.Held{Streams: 3, Late: 1}, peerDone, ownDone, isOpen)
	return c
}

// ends tells whether a frame lets a core fail with a code, and nothing else happens: what
// is sent is one GoAway.
func ends(t *testing.T, c *core.Core, highest int, f api.Frame, code api.Code) {
	t.Helper()
	h, l := c.Held(), c.Active()
	comes(t, c, f, over(code))
	// Of a block that came some may be there.
	now := c.Held()
	has(t, c, core.Held{Block: now.Block, Table: now.Table, Control: 8, Frames: 1, Streams: h.Streams, Late: h.Late}, l...)
	isOver(t, c, away(highest, code))
}

// failsOf tells whether a frame lets a stream fail with a code: what is sent is what is
// told, and Reset; the stream is late then.
func failsOf(t *testing.T, c *core.Core, id int, f api.Frame, code api.Code, sent ...api.Frame) {
	t.Helper()
	h := c.Held()
	l := slices.DeleteFunc(c.Active(), func(x int) bool { return x == id })
	comes(t, c, f, failed(id, code))
	sends(t, c, append(sent, reset(id, code))...)
	h.Streams--
	h.Late = min(h.Late+1, 2)
	h.Table = c.Held().Table
	has(t, c, h, l...)
	responds(t, c, id, yes, true, api.ErrNone)
	windows(t, c, begin, begin)
	// It is late.
	comes(t, c, data(id, 1, 1))
	sends(t, c, grow(0, 1))
}

// nothing tells whether nothing happens with a frame.
func nothing(t *testing.T, c *core.Core, f api.Frame) {
	t.Helper()
	h, l := c.Held(), c.Active()
	in, out := c.Windows()
	comes(t, c, f)
	has(t, c, h, l...)
	windows(t, c, in, out)
	if c.Over() {
		t.Error("over")
	}
}

// P21.1: not greeted: Protocol, if it is not Settings, or flag 1 is set, whatever it says.
func TestNotGreeted(t *testing.T) {
	first := asks(1, 200, 3, 3, 4, 20, 6, 300)
	wrong := []api.Frame{
		data(1, 0, 1), headers(1, 5, blockOf(get)...), priority(1, 3), reset(1, 0), ping(run(0, 8)...), away(0, 0), grow(0, 1), more(1, 4), ping(),
		{Kind: 5}, {Kind: 10}, {Kind: 255}, {Kind: 256}, {Kind: -1}, data(0, 0), {Kind: 4, Flags: 257}, {Kind: 4 - 256},
	}
	for flags := 1; flags < 256; flags += 2 {
		wrong = append(wrong, api.Frame{Kind: 4, Flags: flags}, api.Frame{Kind: 4, Flags: flags, Stream: 1, Payload: num(1)})
	}
	for _, f := range wrong {
		c := made(t, small())
		comes(t, c, f, over(1))
		isOver(t, c, first, away(0, 1))
	}
	for flags := 0; flags < 256; flags += 2 {
		c := made(t, small())
		f := asks(3, 0)
		f.Flags = flags
		comes(t, c, f)
		comes(t, c, ping(run(0, 8)...))
		sends(t, c, first, ack(4), ack(6, run(0, 8)...))
	}
}

// P21.1: first Settings that are wrong have their own codes.
func TestGreetedWrong(t *testing.T) {
	for _, x := range []struct {
		f    api.Frame
		code api.Code
	}{
		{api.Frame{Kind: 4, Stream: 1}, 1}, {api.Frame{Kind: 4, Payload: num(1)}, 6}, {api.Frame{Kind: 4, Flags: 256}, 2},
		{api.Frame{Kind: 4, Flags: -2}, 2}, {asks(2, 2), 1}, {asks(4, 1<<31), 3},
	} {
		c := made(t, small())
		comes(t, c, x.f, over(x.code))
		isOver(t, c, asks(1, 200, 3, 3, 4, 20, 6, 300), away(0, x.code))
	}
}

// P21.1: what is said with flag 1 is nothing, once it is greeted, however often.
func TestAcked(t *testing.T) {
	c := states(t, small())
	for range 50 {
		nothing(t, c, ack(4))
		nothing(t, c, ack(6, run(0, 8)...))
	}
	sends(t, c)
}

// P21.1: a block under way: Protocol, if no Continuation of its stream comes; whatever it
// says.
func TestBlockUnderWay(t *testing.T) {
	for _, id := range []int{isIdle, isIdle + 1, isOpen, peerDone, isLate, isPast} {
		for _, f := range []api.Frame{
			data(id, 0, 1), headers(id, 4, blockOf(get)...), priority(id, 13), reset(id, 0), asks(), ack(4), ping(run(0, 8)...), away(0, 0),
			grow(0, 1), more(id+2, 4), more(id+1, 4), more(0, 4), more(-id, 4), more(id+1<<32, 4), {Kind: 5}, {Kind: 10, Stream: id}, {Kind: 255},
			{Kind: 256}, {Kind: 9 + 256, Stream: id}, ping(), priority(isOpen, isOpen), grow(isOpen, 0),
		} {
			c := states(t, small())
			nothing(t, c, priority(id, 13))
			comes(t, c, headers(id, 0, 130, 135))
			has(t, c, core.Held{Block: 2, Streams: 3, Late: 1}, peerDone, ownDone, isOpen)
			comes(t, c, f, over(1))
			has(t, c, core.Held{Block: 2, Control: 8, Frames: 1, Streams: 3, Late: 1}, peerDone, ownDone, isOpen)
			isOver(t, c, away(9, 1))
		}
	}
}

// P21.1: a Continuation, and none is under way: Protocol.
func TestNoBlockUnderWay(t *testing.T) {
	for _, id := range []int{0, isPast, isLate, isOpen, isIdle, 2, -1} {
		for _, flags := range []int{0, 4, 256} {
			ends(t, states(t, small()), 9, more(id, flags, blockOf(get)...), 1)
		}
	}
	c := greeted(t, small())
	comes(t, c, headers(1, 4, blockOf(get)...), asked(1, false, get))
	ends(t, c, 1, more(1, 4), 1)
	c = greeted(t, small())
	comes(t, c, headers(1, 0, blockOf(get)...))
	comes(t, c, more(1, 4), asked(1, false, get))
	ends(t, c, 1, more(1, 4), 1)
}

// P21.1: a fault of the connection: the core fails with its code, whatever the stream.
func TestFaults(t *testing.T) {
	for _, x := range []struct {
		f    api.Frame
		code api.Code
	}{
		{data(0, 0, 1), 1}, {data(0, 8), 1}, {headers(0, 5, blockOf(get)...), 1}, {priority(0, 1), 1}, {reset(0, 0), 1}, {ping(run(0, 7)...), 6},
		{ping(run(0, 9)...), 6}, {api.Frame{Kind: 6, Stream: 9, Payload: run(0, 8)}, 1}, {api.Frame{Kind: 7, Payload: run(0, 7)}, 6},
		{api.Frame{Kind: 7, Stream: 9, Payload: run(0, 8)}, 1}, {grow(0, 0), 1}, {grow(0, 1<<31), 1}, {api.Frame{Kind: 8, Payload: run(0, 5)}, 6},
		{api.Frame{Kind: 4, Flags: 1, Payload: run(0, 6)}, 6}, {api.Frame{Kind: 256}, 2}, {api.Frame{Kind: -1, Stream: 9}, 2},
		{api.Frame{Kind: 10, Flags: -1}, 2}, {api.Frame{Kind: 6, Stream: 1 << 31}, 2}, {api.Frame{Kind: 11, Payload: make([]byte, 1<<24)}, 2},
	} {
		ends(t, states(t, small()), 9, x.f, x.code)
	}
	for _, id := range []int{isPast, isLate, peerDone, ownDone, isOpen, isIdle, 2, 100} {
		for _, x := range []struct {
			f    api.Frame
			code api.Code
		}{
			{data(id, 8), 6}, {data(id, 9, 3, 1, 2), 1}, {headers(id, 13), 6}, {headers(id, 12, 3, 1, 2), 1}, {headers(id, 36, 1, 2, 3, 4), 6},
			{headers(id, 36, append(num(id), 1)...), 1}, {api.Frame{Kind: 3, Stream: id, Payload: run(0, 3)}, 6}, {api.Frame{Kind: 5, Stream: id}, 1},
			{api.Frame{Kind: 8, Stream: id, Payload: run(0, 3)}, 6}, {api.Frame{Kind: 4, Stream: id}, 1}, {api.Frame{Kind: 0, Stream: id, Flags: 256}, 2},
		} {
			ends(t, states(t, small()), 9, x.f, x.code)
		}
	}
}

// P21.1: a fault of a stream: of one that is idle, the core fails; of an active one, the
// stream does; of others nothing happens.
func TestStreamFaults(t *testing.T) {
	for _, x := range []struct {
		f    func(id int) api.Frame
		code api.Code
	}{
		{func(id int) api.Frame { return api.Frame{Kind: 2, Stream: id, Payload: run(0, 4)} }, 6},
		{func(id int) api.Frame { return api.Frame{Kind: 2, Stream: id, Payload: run(0, 6)} }, 6},
		{func(id int) api.Frame { return priority(id, id) }, 1},
		{func(id int) api.Frame { return grow(id, 0) }, 1},
		{func(id int) api.Frame { return grow(id, 1<<31) }, 1},
	} {
		for _, id := range []int{isIdle, 2, 8, 100, 1001, mostID} {
			ends(t, states(t, small()), 9, x.f(id), x.code)
		}
		for _, id := range []int{peerDone, ownDone, isOpen} {
			failsOf(t, states(t, small()), id, x.f(id), x.code)
		}
		c := states(t, small())
		// They are not counted either.
		for range 30 {
			nothing(t, c, x.f(isLate))
			nothing(t, c, x.f(isPast))
		}
		sends(t, c)
	}
}

// P21.1: Data: of an idle stream Protocol, of one that is past StreamClosed: IN is less by
// Flow then; of a late one Flow is credited.
func TestData(t *testing.T) {
	for _, id := range []int{isIdle, 2, 4, 100, 1001} {
		for _, flags := range []int{0, 1} {
			c := states(t, small())
			ends(t, c, 9, data(id, flags, 1, 2), 1)
			windows(t, c, begin-2, begin)
		}
	}
	for _, flags := range []int{0, 1} {
		c := states(t, small())
		ends(t, c, 9, data(isPast, flags|8, 1, 2, 3), 5)
		windows(t, c, begin-3, begin)
		c = states(t, small())
		ends(t, c, 9, data(isPast, 1), 5)
	}
	c := states(t, small())
	for n := range 100 {
		comes(t, c, data(isLate, n%2, run(0, 1+n*600)...))
		sends(t, c, grow(0, 1+n*600))
	}
	nothing(t, c, data(isLate, 1))
	sends(t, c)
	windows(t, c, begin, begin)
}

// P21.1: Flow above IN: FlowControl, ahead of all else, of whatever stream; IN stays.
func TestDataAboveIn(t *testing.T) {
	for _, id := range []int{isPast, isLate, peerDone, ownDone, isOpen, isIdle, 2} {
		for _, f := range []api.Frame{data(id, 0, make([]byte, begin+1)...), data(id, 1, make([]byte, 1<<17)...), data(id, 8, append([]byte{255}, make([]byte, begin)...)...)} {
			c := states(t, small())
			ends(t, c, 9, f, 3)
			windows(t, c, begin, begin)
		}
	}
	c := states(t, small())
	comes(t, c, data(isLate, 1, make([]byte, begin)...))
	sends(t, c, grow(0, begin))
}

// P21.1: Empties are counted, of whatever stream, with padding too; not with the end.
func TestEmpties(t *testing.T) {
	for _, id := range []int{isPast, isLate, peerDone, ownDone, isOpen, isIdle, 2} {
		k := small()
		k.Limits[3] = 0
		ends(t, states(t, k), 9, data(id, 0), 11)
		c := states(t, k)
		ends(t, c, 9, data(id, 8, 2, 0, 0), 11)
		windows(t, c, begin-3, begin)
	}
	k := small()
	c := states(t, k)
	for range 5 {
		for range 3 {
			comes(t, c, data(isOpen, 0), body(isOpen, false))
		}
		c.Tick()
	}
	sends(t, c)
	comes(t, c, data(isOpen, 8, 1, 0), body(isOpen, false))
	sends(t, c, grow(0, 2), grow(isOpen, 2))
	nothing(t, c, data(isLate, 0))
	comes(t, c, data(isOpen, 0), body(isOpen, false))
	comes(t, c, data(isOpen, 0, 1), body(isOpen, false, 1))
	comes(t, c, data(isOpen, 1), body(isOpen, true))
	sends(t, c, grow(0, 1), grow(isOpen, 1))
	ends(t, c, 9, data(isLate, 0), 11)
}

// P21.1: Data of an active stream whose peer has said all: credited, and StreamClosed.
func TestDataBehindEnd(t *testing.T) {
	for _, flags := range []int{0, 1} {
		failsOf(t, states(t, small()), peerDone, data(peerDone, flags, 1, 2), 5, grow(0, 2))
		failsOf(t, states(t, small()), peerDone, data(peerDone, flags, make([]byte, 100)...), 5, grow(0, 100))
		failsOf(t, states(t, small()), peerDone, data(peerDone, flags), 5)
	}
	c := states(t, small())
	comes(t, c, data(isOpen, 1, 7), body(isOpen, true, 7))
	emptied(c)
	failsOf(t, c, isOpen, data(isOpen, 1), 5)
}

// P21.1: Data above the stream's window: credited, and FlowControl; else its window is as
// it was, behind each, but not behind the end.
func TestDataWindow(t *testing.T) {
	for _, id := range []int{ownDone, isOpen} {
		for _, flags := range []int{0, 1} {
			c := states(t, small())
			for n := range 21 {
				b := run(7, n)
				comes(t, c, data(id, 0, b...), body(id, false, b...))
				if n > 0 {
					sends(t, c, grow(0, n), grow(id, n))
				}
				windows(t, c, begin, begin)
			}
			// Padding counts, too.
			comes(t, c, data(id, 8, append([]byte{10, 1, 2}, make([]byte, 10)...)...), body(id, false, 1, 2))
			sends(t, c, grow(0, 13), grow(id, 13))
			failsOf(t, c, id, data(id, flags, make([]byte, 21)...), 3, grow(0, 21))
			failsOf(t, states(t, small()), id, data(id, 8|flags, append([]byte{20}, make([]byte, 20)...)...), 3, grow(0, 21))
		}
	}
	k := small()
	k.Window = 0
	c := greeted(t, k, 1)
	comes(t, c, data(1, 0), body(1, false))
	failsOf(t, c, 1, data(1, 0, 1), 3, grow(0, 1))
	k.Window = 65535
	c = greeted(t, k, 1)
	b := run(0, 65535)
	comes(t, c, data(1, 0, b...), body(1, false, b...))
	sends(t, c, grow(0, 65535), grow(1, 65535))
}

// P21.1: at the end the stream's window does not grow; if all was sent, too, it is closed,
// not late.
func TestDataEnd(t *testing.T) {
	c := states(t, small())
	comes(t, c, data(isOpen, 1, run(0, 20)...), body(isOpen, true, run(0, 20)...))
	sends(t, c, grow(0, 20))
	has(t, c, core.Held{Streams: 3, Late: 1}, peerDone, ownDone, isOpen)
	comes(t, c, data(ownDone, 1, run(0, 20)...), body(ownDone, true, run(0, 20)...))
	sends(t, c, grow(0, 20))
	has(t, c, core.Held{Streams: 2, Late: 1}, peerDone, isOpen)
	ends(t, c, 9, data(ownDone, 1, 1), 5)
	c = states(t, small())
	comes(t, c, data(ownDone, 1), body(ownDone, true))
	sends(t, c)
	has(t, c, core.Held{Streams: 2, Late: 1}, peerDone, isOpen)
	// Its head was said, but has not gone: so it is active still.
	c = states(t, small())
	responds(t, c, isOpen, yes, true, api.OK)
	comes(t, c, data(isOpen, 1), body(isOpen, true))
	has(t, c, core.Held{Heads: 2, Streams: 3, Late: 1}, peerDone, ownDone, isOpen)
	sends(t, c, headers(isOpen, 5, 32, 136))
	has(t, c, core.Held{Streams: 2, Late: 1}, peerDone, ownDone)
}

// P21.1: GOT above WANT, or another one at the end: credited, and Protocol.
func TestDataLength(t *testing.T) {
	for want := range 6 {
		for got := range 8 {
			for at := range got + 1 {
				c := greeted(t, small())
				l := post("000" + string(rune('0'+want)))
				comes(t, c, headers(1, 4, blockOf(l)...), asked(1, false, l))
				first, last := data(1, 8, append([]byte{2}, make([]byte, at+2)...)...), data(1, 1, make([]byte, got-at)...)
				if at > want {
					failsOf(t, c, 1, first, 1, grow(0, at+3))
					continue
				}
				comes(t, c, first, body(1, false, make([]byte, at)...))
				sends(t, c, grow(0, at+3), grow(1, at+3))
				switch {
				case got == want:
					comes(t, c, last, body(1, true, make([]byte, got-at)...))
				case got == at:
					failsOf(t, c, 1, last, 1)
				default:
					failsOf(t, c, 1, last, 1, grow(0, got-at))
				}
			}
		}
	}
}

// P21.1: without a length, as many bytes may come as will.
func TestDataNoLength(t *testing.T) {
	c := greeted(t, small(), 1)
	for range 50 {
		comes(t, c, data(1, 0, run(0, 20)...), body(1, false, run(0, 20)...))
		emptied(c)
	}
	comes(t, c, data(1, 1), body(1, true))
}

// cuts lets a block come in all ways of two, and three, frames; a core is made for each.
func cuts(b []byte, id, flags int, happens func(frames []api.Frame)) {
	happens([]api.Frame{headers(id, flags|4, b...)})
	for i := range len(b) + 1 {
		happens([]api.Frame{headers(id, flags, b[:i]...), more(id, 4, b[i:]...)})
		for j := i; j <= len(b); j++ {
			happens([]api.Frame{headers(id, flags, b[:i]...), more(id, 0, b[i:j]...), more(id, 4, b[j:]...)})
		}
	}
}

// P21.1: a request: however its block is cut into frames, one event tells it, at the end;
// flag 1 counts of Headers alone; padding and what it depends on are not of the block.
func TestRequest(t *testing.T) {
	b := blockOf(get)
	for flags := range 2 {
		cuts(b, 1, flags, func(frames []api.Frame) {
			c := greeted(t, small())
			h := core.Held{}
			for i, f := range frames[:len(frames)-1] {
				if i > 0 {
					f.Flags |= 1
				}
				comes(t, c, f)
				h.Block += len(f.Payload)
				has(t, c, h)
			}
			comes(t, c, frames[len(frames)-1], asked(1, flags == 1, get))
			has(t, c, core.Held{Streams: 1}, 1)
			sends(t, c)
		})
	}
	c := greeted(t, small())
	padded := slices.Concat([]byte{3}, num(1<<31|3), []byte{9}, b, []byte{1, 2, 3})
	comes(t, c, headers(1, 44, padded...), asked(1, false, get))
	ends(t, c, 1, headers(3, 45, padded[:1]...), 1)
}

// P21.1: the peer's Window is that of a stream that comes; later ones shift it.
func TestRequestWindow(t *testing.T) {
	c := greeted(t, small())
	comes(t, c, asks(4, 3))
	for _, id := range []int{1, 3} {
		comes(t, c, headers(id, 5, blockOf(get)...), asked(id, true, get))
		responds(t, c, id, yes, false, api.OK)
		says(t, c, id, run(id, 15), true, api.OK)
	}
	sends(t, c, ack(4), headers(1, 4, 32, 136), data(1, 0, run(1, 3)...), headers(3, 4, 32, 136), data(3, 0, run(3, 3)...))
	comes(t, c, grow(1, 2))
	sends(t, c, data(1, 0, run(4, 2)...))
	comes(t, c, asks(4, 0, 4, 5))
	sends(t, c, ack(4), data(1, 0, run(6, 2)...), data(3, 0, run(6, 2)...))
	c.Tick()
	comes(t, c, asks(4, 2))
	comes(t, c, grow(3, 4))
	sends(t, c, ack(4), data(3, 0, 8))
	comes(t, c, asks(4, 100))
	sends(t, c, ack(4), data(1, 1, run(8, 8)...), data(3, 1, run(9, 9)...))
}

// P21.1: an even id: Protocol; one that is past: StreamClosed; late: nothing, but that the
// block is read; the list may be whatever it is.
func TestHeadersElsewhere(t *testing.T) {
	long := blockOf(list("a", strings.Repeat("b", 300)))
	for _, b := range [][]byte{blockOf(get), nil, {130}, long, {130, 135, 68, 1, 97}} {
		for _, flags := range []int{4, 5} {
			for _, id := range []int{2, 8, 10, 12, 1000, mostID - 1} {
				ends(t, states(t, small()), 9, headers(id, flags, b...), 1)
			}
			ends(t, states(t, small()), 9, headers(isPast, flags, b...), 5)
			c := states(t, small())
			comes(t, c, headers(isLate, flags, b...))
			sends(t, c)
			table := 0
			if len(b) == 5 {
				table = 38
			}
			has(t, c, core.Held{Table: table, Streams: 3, Late: 1}, peerDone, ownDone, isOpen)
		}
	}
	for _, id := range []int{2, isPast, isLate, peerDone, isOpen, isIdle} {
		// No such field: ahead of all that the stream is.
		ends(t, states(t, small()), 9, headers(id, 5, 190), 9)
	}
}

// P21.1: a block may have List and 16384 bytes, in one frame or more, read or not; with
// more: Calm.
func TestBlockLong(t *testing.T) {
	most := 300 + minFrame
	for _, n := range []int{0, 1, 5, most - 1, most} {
		c := states(t, small())
		if n > 0 {
			comes(t, c, headers(isLate, 0, make([]byte, n)...))
			comes(t, c, more(isLate, 0, make([]byte, most-n)...))
		} else {
			comes(t, c, headers(isLate, 0, make([]byte, most)...))
		}
		has(t, c, core.Held{Block: most, Streams: 3, Late: 1}, peerDone, ownDone, isOpen)
		comes(t, c, more(isLate, 4, 0), over(11))
		has(t, c, core.Held{Block: most + 1, Control: 8, Frames: 1, Streams: 3, Late: 1}, peerDone, ownDone, isOpen)
		isOver(t, c, away(9, 11))
	}
	for _, flags := range []int{0, 4, 5} {
		c := states(t, small())
		comes(t, c, headers(isIdle, flags, make([]byte, most+1)...), over(11))
		has(t, c, core.Held{Block: most + 1, Control: 8, Frames: 1, Streams: 3, Late: 1}, peerDone, ownDone, isOpen)
	}
	// Fields that are a byte each: as many as may be are read, and the list is cut off.
	c := greeted(t, small())
	comes(t, c, headers(1, 4, slices.Repeat([]byte{130}, most)...))
	sends(t, c, reset(1, 11))
	k := small()
	k.List = 0
	c = greeted(t, k)
	comes(t, c, headers(1, 4, slices.Repeat([]byte{130}, minFrame)...))
	sends(t, c, reset(1, 11))
	comes(t, c, headers(3, 4, slices.Repeat([]byte{130}, minFrame+1)...), over(11))
}

// P21.1: Blocks are 0 with Headers, and counted with each Continuation; a tick is nothing
// to them.
func TestBlocks(t *testing.T) {
	for limit := range 4 {
		k := small()
		k.Limits[5] = limit
		c := greeted(t, k)
		for id := 1; id < 200; id += 2 {
			comes(t, c, headers(id, 1))
			for range limit - 1 {
				c.Tick()
				comes(t, c, more(id, 0))
			}
			if limit > 0 {
				comes(t, c, more(id, 4))
				sends(t, c, reset(id, 1))
				continue
			}
			comes(t, c, more(id, 4), over(11))
			break
		}
		c = greeted(t, k)
		comes(t, c, headers(1, 0, 130))
		for range limit {
			comes(t, c, more(1, 0, 135))
		}
		comes(t, c, more(1, 4, 132), over(11))
		has(t, c, core.Held{Block: 1 + limit, Control: 8, Frames: 1})
		isOver(t, c, away(0, 11))
	}
}

// P21.1: Headers of an active stream whose peer has said all: StreamClosed; of another one
// without the end: Protocol; ahead of what the list is.
func TestTrailersElsewhere(t *testing.T) {
	for _, b := range [][]byte{nil, blockOf(get), blockOf(list("a", "b")), blockOf(list("a", strings.Repeat("b", 300)))} {
		for _, flags := range []int{4, 5} {
			failsOf(t, states(t, small()), peerDone, headers(peerDone, flags, b...), 5)
		}
		failsOf(t, states(t, small()), isOpen, headers(isOpen, 4, b...), 1)
		failsOf(t, states(t, small()), ownDone, headers(ownDone, 4, b...), 1)
	}
}

// P21.1: trailers: they are told, with the end; if all was sent, the stream is closed, not
// late.
func TestTrailers(t *testing.T) {
	for _, l := range [][]api.Field{nil, list("a", "b"), list("a", "b", "a", "c"), list("content-length", "7", "content-length", "07")} {
		cuts(blockOf(l), isOpen, 1, func(frames []api.Frame) {
			c := states(t, small())
			for _, f := range frames[:len(frames)-1] {
				comes(t, c, f)
			}
			comes(t, c, frames[len(frames)-1], trailers(isOpen, true, l))
			has(t, c, core.Held{Streams: 3, Late: 1}, peerDone, ownDone, isOpen)
			comes(t, c, headers(ownDone, 5, blockOf(l)...), trailers(ownDone, true, l))
			has(t, c, core.Held{Streams: 2, Late: 1}, peerDone, isOpen)
			sends(t, c)
			failsOf(t, c, isOpen, headers(isOpen, 5), 5)
			ends(t, c, 9, headers(ownDone, 5), 5)
		})
	}
}

// P21.1: trailers that are cut off: Calm, whatever else; such as may not be: Protocol.
func TestTrailersWrong(t *testing.T) {
	for _, id := range []int{ownDone, isOpen} {
		for _, l := range [][]api.Field{get, list(":status", "200"), list("A", "b"), list("te", "x"), list("content-length", "7", "content-length", "8")} {
			failsOf(t, states(t, small()), id, headers(id, 5, blockOf(l)...), 1)
			failsOf(t, states(t, small()), id, headers(id, 5, blockOf(append(list("a", strings.Repeat("b", 300)), l...))...), 11)
		}
		// The list's size is 300, and 301.
		l := list("a", strings.Repeat("b", 300-33))
		comes(t, states(t, small()), headers(id, 5, blockOf(l)...), trailers(id, true, l))
		l[0].Value += "b"
		failsOf(t, states(t, small()), id, headers(id, 5, blockOf(l)...), 11)
	}
}

// P21.1: trailers, and GOT is another one than WANT: Protocol.
func TestTrailersLength(t *testing.T) {
	for want := range 4 {
		for got := range want + 1 {
			c := greeted(t, small())
			l := post(string(rune('0' + want)))
			comes(t, c, headers(1, 4, blockOf(l)...), asked(1, false, l))
			comes(t, c, data(1, 0, make([]byte, got)...), body(1, false, make([]byte, got)...))
			emptied(c)
			if got == want {
				comes(t, c, headers(1, 5, 0, 1, 97, 0), trailers(1, true, list("a", "")))
				has(t, c, core.Held{Streams: 1}, 1)
				continue
			}
			failsOf(t, c, 1, headers(1, 5, 0, 1, 97, 0), 1)
		}
	}
}

// P21.1: no room for a stream: Refused, whatever the list; it is late, and the highest.
func TestRefused(t *testing.T) {
	for streams := range 4 {
		k := small()
		k.Streams = streams
		c := greeted(t, k)
		for i := range streams {
			comes(t, c, headers(1+2*i, 4, blockOf(get)...), asked(1+2*i, false, get))
		}
		for i, b := range [][]byte{blockOf(get), nil, blockOf(list("a", strings.Repeat("b", 300)))} {
			comes(t, c, headers(11+2*i, 5, b...))
			sends(t, c, reset(11+2*i, 7))
			has(t, c, core.Held{Streams: streams, Late: min(i+1, 2)}, c.Active()...)
			comes(t, c, data(11+2*i, 0, 1))
			sends(t, c, grow(0, 1))
		}
		ends(t, c, 15, headers(11, 5, blockOf(get)...), 5)
	}
	// One that goes lets another one come.
	c := greeted(t, small(), 1, 3, 5)
	comes(t, c, reset(3, 8), gone(3, 8))
	comes(t, c, headers(7, 4, blockOf(get)...), asked(7, false, get))
	comes(t, c, headers(9, 4, blockOf(get)...))
	sends(t, c, reset(9, 7))
}

// P21.1: a list that is cut off: Calm; no request: Protocol; the end, and WANT above 0:
// Protocol: of these no event tells; the stream is closed, late.
func TestRequestWrong(t *testing.T) {
	long := append(slices.Clone(get), list("a", strings.Repeat("b", 300-124-33))...)
	for _, x := range []struct {
		l     []api.Field
		flags int
		code  api.Code
	}{
		{nil, 4, 1}, {nil, 5, 1}, {get[1:], 4, 1}, {yes, 5, 1}, {list("a", "b"), 5, 1}, {append(slices.Clone(get), get[0]), 4, 1}, {append(slices.Clone(long), get[0]), 4, 11},
		{list("a", strings.Repeat("b", 300)), 5, 11}, {append(post("5"), list("a", strings.Repeat("b", 300))...), 5, 11}, {post("1"), 5, 1}, {post("100000"), 5, 1},
		{post("x"), 5, 1}, {append(post("0"), list("content-length", "1")...), 5, 1},
	} {
		c := greeted(t, small())
		comes(t, c, headers(1, x.flags, blockOf(x.l)...))
		has(t, c, core.Held{Control: 4, Frames: 1, Late: 1})
		sends(t, c, reset(1, x.code))
		comes(t, c, data(1, 0, 1))
		comes(t, c, headers(1, 5, blockOf(get)...))
		sends(t, c, grow(0, 1))
		ends(t, c, 1, data(3, 0), 1)
	}
	for _, x := range []struct {
		l     []api.Field
		flags int
	}{{long, 4}, {long, 5}, {post("1"), 4}, {post("0"), 4}, {post("0"), 5}, {post("000"), 5}, {list(":method", "CONNECT", ":authority", "a"), 4}} {
		c := greeted(t, small())
		comes(t, c, headers(1, x.flags, blockOf(x.l)...), asked(1, x.flags == 5, x.l))
		has(t, c, core.Held{Streams: 1}, 1)
		sends(t, c)
	}
}

// P21.1: an error of the block: Compression; the block is not under way then, and the
// stream was not begun.
func TestCompression(t *testing.T) {
	for _, b := range [][]byte{{128}, {190}, {130, 68, 1, 97, 255}, {130, 32}, {63, 170, 1}, {0}, {64, 1}} {
		c := greeted(t, small(), 1)
		table := 0
		if len(b) == 5 {
			table = 38
		}
		comes(t, c, headers(3, 5, b...), over(9))
		has(t, c, core.Held{Table: table, Control: 8, Frames: 1, Streams: 1}, 1)
		isOver(t, c, away(1, 9))
	}
}

// P21.1: what a block puts into the table the next one may name, of whatever stream, and
// whatever became of that.
func TestTableGoesOn(t *testing.T) {
	c := states(t, small())
	comes(t, c, headers(isLate, 4, 130, 135, 68, 1, 97))
	comes(t, c, headers(isOpen, 4, 68, 1, 98), failed(isOpen, 1))
	want := list(":method", "GET", ":scheme", "https", ":path", "b")
	comes(t, c, headers(isIdle, 4, 130, 135, 190), asked(isIdle, false, want))
	want[2].Value = "a"
	comes(t, c, headers(13, 4, 130, 135, 191))
	comes(t, c, reset(isIdle, 0), gone(isIdle, 0))
	comes(t, c, headers(15, 4, 130, 135, 191), asked(15, false, want))
	sends(t, c, reset(isOpen, 1), reset(13, 7))
}

// P21.1: Reset: of an idle stream Protocol, ahead of the count; counted of others; an
// active one is closed, not late, and gone from the sender: Gone tells the code.
func TestResetComes(t *testing.T) {
	k := small()
	k.Limits[0] = 0
	for _, id := range []int{isIdle, 2, 100, 1001} {
		ends(t, states(t, small()), 9, reset(id, 8), 1)
		c := greeted(t, k)
		ends(t, c, 0, reset(id, 8), 1)
	}
	for _, code := range []int{0, 1, 8, 11, 255, 256, 1 << 31, mostCode} {
		c := states(t, small())
		responds(t, c, isOpen, yes, false, api.OK)
		says(t, c, isOpen, run(0, 9), true, api.OK)
		comes(t, c, reset(isOpen, api.Code(code)), gone(isOpen, api.Code(code)))
		has(t, c, core.Held{Streams: 2, Late: 1}, peerDone, ownDone)
		sends(t, c)
		responds(t, c, isOpen, yes, true, api.ErrNone)
		comes(t, c, reset(ownDone, api.Code(code)), gone(ownDone, api.Code(code)))
		comes(t, c, reset(peerDone, api.Code(code)), gone(peerDone, api.Code(code)))
		has(t, c, core.Held{Late: 1})
		sends(t, c)
		ends(t, c, 9, data(isOpen, 0, 1), 5)
	}
	for _, id := range []int{isLate, isPast, isOpen} {
		c := states(t, small())
		nothing(t, c, reset(isLate, 8))
		nothing(t, c, reset(isPast, 8))
		nothing(t, c, reset(isPast, 8))
		ends(t, c, 9, reset(id, 8), 11)
		has(t, c, core.Held{Streams: 3, Late: 1}, peerDone, ownDone, isOpen)
	}
}

// P21.1: Settings: counted, applied, and answered.
func TestSettings(t *testing.T) {
	c := states(t, small())
	for _, f := range []api.Frame{asks(), asks(1, 0, 2, 0, 3, 0, 5, 16384, 6, 0, 7, 9), asks(4, 0, 4, mostWindow, 5, 1<<24-1, 4, 65535, 2, 1)} {
		comes(t, c, f)
		sends(t, c, ack(4))
	}
	ends(t, c, 9, asks(), 11)
	for _, x := range []struct {
		f    api.Frame
		code api.Code
	}{
		{asks(2, 2), 1}, {asks(4, 1<<31), 3}, {asks(4, 1<<32-1, 2, 2), 3}, {asks(2, 2, 4, 1<<31), 1}, {asks(5, 16383), 1}, {asks(5, 1<<24), 1}, {asks(5, 0), 1}, {asks(2, 1, 2, 3), 1},
	} {
		ends(t, states(t, small()), 9, x.f, x.code)
	}
	k := small()
	k.Limits[2] = 0
	c = made(t, k)
	comes(t, c, asks(2, 2), over(11))
	isOver(t, c, asks(1, 200, 3, 3, 4, 20, 6, 300), away(0, 11))
}

// P21.1: a window that can't be shifted: FlowControl, of a stream that is in the sender
// alone; nothing is answered then.
func TestSettingsShift(t *testing.T) {
	for _, id := range []int{peerDone, isOpen} {
		c := states(t, small())
		comes(t, c, grow(id, mostWindow-begin-5))
		comes(t, c, asks(4, begin+5))
		comes(t, c, asks(4, 1))
		sends(t, c, ack(4), ack(4))
		ends(t, c, 9, asks(4, begin+6), 3)
		c = states(t, small())
		comes(t, c, grow(id, mostWindow-begin))
		ends(t, c, 9, asks(4, mostWindow), 3)
		has(t, c, core.Held{Streams: 3, Late: 1}, peerDone, ownDone, isOpen)
	}
	c := states(t, small())
	comes(t, c, grow(ownDone, mostWindow-begin))
	comes(t, c, grow(ownDone, 5))
	comes(t, c, asks(4, mostWindow))
	comes(t, c, asks(4, 0))
	sends(t, c, ack(4), ack(4))
	windows(t, c, begin, begin)
}

// P21.1: Ping: counted, and answered with its bytes.
func TestPing(t *testing.T) {
	c := states(t, small())
	for i := range 3 {
		f := ping(run(10*i, 8)...)
		f.Flags = 254
		comes(t, c, f)
		sends(t, c, ack(6, run(10*i, 8)...))
	}
	ends(t, c, 9, ping(run(0, 8)...), 11)
}

// P21.1: GoAway: Leaves tells what it says, however often; nothing else happens.
func TestGoAway(t *testing.T) {
	c := states(t, small())
	for range 20 {
		comes(t, c, away(9, 2), leaves(9, 2))
		comes(t, c, away(mostID, mostCode), leaves(mostID, mostCode))
		comes(t, c, api.Frame{Kind: 7, Flags: 255, Payload: append(num(1<<31|5, 0), 9, 9)}, leaves(5, 0))
	}
	sends(t, c)
	has(t, c, core.Held{Streams: 3, Late: 1}, peerDone, ownDone, isOpen)
	comes(t, c, headers(isIdle, 4, blockOf(get)...))
	comes(t, c, reset(isOpen, 0), gone(isOpen, 0))
	comes(t, c, headers(13, 4, blockOf(get)...), asked(13, false, get))
}

// P21.1: Update: counted of whatever stream; OUT grows, or FlowControl; of an idle one
// Protocol.
func TestUpdate(t *testing.T) {
	for _, id := range []int{0, isPast, isLate, peerDone, ownDone, isOpen, isIdle, 2} {
		k := small()
		k.Limits[4] = 0
		ends(t, states(t, k), 9, grow(id, 1), 11)
	}
	for _, id := range []int{isIdle, 2, 100, 1001, mostID} {
		ends(t, states(t, small()), 9, grow(id, 1), 1)
	}
	c := states(t, small())
	comes(t, c, grow(0, 5))
	windows(t, c, begin, begin+5)
	comes(t, c, grow(0, 1<<31|(mostWindow-begin-5)))
	windows(t, c, begin, mostWindow)
	nothing(t, c, grow(isLate, mostWindow))
	nothing(t, c, grow(isPast, mostWindow))
	nothing(t, c, grow(ownDone, mostWindow))
	nothing(t, c, grow(ownDone, 1))
	ends(t, c, 9, grow(0, 1), 11)
	c = states(t, small())
	ends(t, c, 9, grow(0, mostWindow-begin+1), 3)
	windows(t, c, begin, begin)
}

// P21.1: an active stream's window grows, if it is in the sender: if it can't, the stream
// fails with FlowControl.
func TestUpdateStream(t *testing.T) {
	for _, id := range []int{peerDone, isOpen} {
		c := states(t, small())
		comes(t, c, asks(4, 0))
		responds(t, c, id, yes, false, api.OK)
		says(t, c, id, run(0, 9), true, api.OK)
		sends(t, c, ack(4), headers(id, 4, 32, 136))
		comes(t, c, grow(id, 3))
		sends(t, c, data(id, 0, run(0, 3)...))
		comes(t, c, grow(id, mostWindow))
		sends(t, c, data(id, 1, run(3, 6)...))
		c = states(t, small())
		comes(t, c, grow(id, mostWindow-begin))
		failsOf(t, c, id, grow(id, 1), 3)
		responds(t, c, id, yes, true, api.ErrNone)
	}
}

// P21.1: frames of other kinds are nothing.
func TestOthers(t *testing.T) {
	for kind := 10; kind < 256; kind++ {
		c := greeted(t, small(), 1)
		for _, flags := range []int{0, 1, 255} {
			for _, id := range []int{0, 1, 3, 2, mostID} {
				nothing(t, c, api.Frame{Kind: api.Kind(kind), Flags: flags, Stream: id, Payload: run(0, kind%20)})
			}
		}
		sends(t, c)
	}
	c := states(t, small())
	for _, id := range []int{isPast, isLate, peerDone, ownDone, isOpen, isIdle, 2, mostID} {
		nothing(t, c, priority(id, id+2))
	}
	sends(t, c)
}

// P21.1, P21.2: whatever is queued when there is no room: Calm; what was told ahead of that
// stands, nothing else happens.
func TestNoRoom(t *testing.T) {
	for _, x := range []struct {
		f       api.Frame
		room    int
		told    []core.Event
		sent    []api.Frame
		highest int
		held    core.Held
	}{
		{ping(run(0, 8)...), 0, nil, nil, 9, core.Held{Streams: 3, Late: 1}},
		{asks(4, 5), 0, nil, nil, 9, core.Held{Streams: 3, Late: 1}},
		{data(isLate, 0, 1), 0, nil, nil, 9, core.Held{Streams: 3, Late: 1}},
		{data(isOpen, 0, 1), 0, []core.Event{body(isOpen, false, 1)}, nil, 9, core.Held{Streams: 3, Late: 1}},
		{data(isOpen, 0, 1), 1, []core.Event{body(isOpen, false, 1)}, []api.Frame{grow(0, 1)}, 9, core.Held{Streams: 3, Late: 1}},
		{data(ownDone, 1, 1), 0, []core.Event{body(ownDone, true, 1)}, nil, 9, core.Held{Streams: 3, Late: 1}},
		{data(peerDone, 0, 1), 0, nil, nil, 9, core.Held{Streams: 3, Late: 1}},
		{data(peerDone, 0, 1), 1, nil, []api.Frame{grow(0, 1)}, 9, core.Held{Streams: 2, Late: 2}},
		{data(peerDone, 0), 0, nil, nil, 9, core.Held{Streams: 2, Late: 2}},
		{data(isOpen, 0, make([]byte, 21)...), 0, nil, nil, 9, core.Held{Streams: 3, Late: 1}},
		{priority(isOpen, isOpen), 0, nil, nil, 9, core.Held{Streams: 2, Late: 2}},
		{headers(isOpen, 4), 0, nil, nil, 9, core.Held{Streams: 2, Late: 2}},
		{headers(isOpen, 5, 130), 0, nil, nil, 9, core.Held{Streams: 2, Late: 2}},
		{headers(isIdle, 5, blockOf(get)...), 0, nil, nil, 11, core.Held{Streams: 3, Late: 2}},
	} {
		c := states(t, small())
		q := fulled(t, c, 6-x.room)
		responds(t, c, isOpen, yes, false, api.OK)
		says(t, c, isOpen, run(0, 9), false, api.OK)
		comes(t, c, x.f, append(slices.Clone(x.told), over(11))...)
		q = append(append(q, x.sent...), away(x.highest, 11))
		x.held.Frames = len(q)
		for _, f := range q {
			x.held.Control += len(f.Payload)
		}
		has(t, c, x.held, c.Active()...)
		isOver(t, c, q...)
		windows(t, c, begin, begin)
	}
}

// P21.1, P21.2: likewise of a request that may not be, of a Reset, and of a Shutdown.
func TestNoRoomElse(t *testing.T) {
	c := greeted(t, small(), 1)
	q := fulled(t, c, 6)
	comes(t, c, headers(3, 5, 130), over(11))
	has(t, c, core.Held{Control: 56, Frames: 7, Streams: 1, Late: 1}, 1)
	isOver(t, c, append(q, away(3, 11))...)
	c = greeted(t, small(), 1, 3)
	q = fulled(t, c, 6)
	resets(t, c, 1, 8, api.OK, over(11))
	has(t, c, core.Held{Control: 56, Frames: 7, Streams: 1, Late: 1}, 3)
	isOver(t, c, append(q, away(3, 11))...)
	c = greeted(t, small(), 1, 3)
	q = fulled(t, c, 6)
	shuts(t, c, api.OK, over(11))
	isOver(t, c, append(q, away(3, 11))...)
	k := small()
	k.Room = 1
	c = made(t, k)
	comes(t, c, asks(), over(11))
	isOver(t, c, asks(1, 200, 3, 3, 4, 20, 6, 300), away(0, 11))
}

// P21.1: example 7: behind 7 Pings, in a queue with room for 6, the core fails with Calm: 6
// answers, and a GoAway, are sent.
func TestSevenPings(t *testing.T) {
	k := small()
	k.Limits[1] = 10000
	c := greeted(t, k)
	var want []api.Frame
	for i := range 6 {
		comes(t, c, ping(run(i, 8)...))
		want = append(want, ack(6, run(i, 8)...))
	}
	comes(t, c, ping(run(9, 8)...), over(11))
	isOver(t, c, append(want, away(0, 11))...)
}
