package engine_test

import (
	"bytes"
	"encoding/binary"
	"fmt"
	"math"
	"slices"
	"strings"
	"testing"

	"gantlet/api"
	"gantlet/block"
	"gantlet/core"
	"gantlet/engine"
)

// preface is the one that the document tells, byte by byte.
var preface = []byte{80, 82, 73, 32, 42, 32, 72, 84, 84, 80, 47, 50, 46, 48, 13, 10, 13, 10, 83, 77, 13, 10, 13, 10}

// small is a configuration with little room.
func small() core.Config {
	return core.Config{Table: 200, List: 300, Streams: 3, Window: 20, Room: 6, Cap: 30, Memory: 2, Limits: [6]int{3, 3, 3, 3, 6, 2}}
}

// wide is one with much room.
func wide() core.Config {
	return core.Config{
		Table: 4096, List: 65535, Streams: 100, Window: 65535, Room: 64, Cap: 65535, Memory: 100,
		Limits: [6]int{10000, 10000, 10000, 10000, 10000, 10000},
	}
}

// list is that of names and values.
func list(texts ...string) []api.Field {
	var l []api.Field
	for i := 0; i < len(texts); i += 2 {
		l = append(l, api.Field{Name: texts[i], Value: texts[i+1]})
	}
	return l
}

// get is a request without a length, and asks its block.
var (
	get  = list(":method", "GET", ":path", "/", ":scheme", "https")
	asks = []byte{130, 132, 135}
)

// yes is a response; its block, as it is sent, is 32, 136.
var yes = list(":status", "200")

// blockOf is the bytes of a list, that leave the table as it is.
func blockOf(l []api.Field) []byte {
	b, e := block.Encode(l, false)
	if e != api.OK {
		panic("no such block")
	}
	return b
}

// num is the bytes of numbers, 4 of each.
func num(l ...int) []byte {
	var b []byte
	for _, n := range l {
		b = binary.BigEndian.AppendUint32(b, uint32(n))
	}
	return b
}

// run is so many bytes, that rise from one on.
func run(from, count int) []byte {
	b := make([]byte, count)
	for i := range b {
		b[i] = byte(from + i)
	}
	return b
}

// head is the first bytes of a frame whose payload has so many.
func head(length, kind, flags, stream int) []byte {
	return append([]byte{byte(length >> 16), byte(length >> 8), byte(length), byte(kind), byte(flags)}, num(stream)...)
}

// laid is a frame's bytes, by the document's words.
func laid(f api.Frame) []byte {
	return append(head(len(f.Payload), int(f.Kind), f.Flags, f.Stream), f.Payload...)
}

// What frames are as bytes, as they come, or are sent.

func data(id, flags int, b ...byte) []byte { return append(head(len(b), 0, flags, id), b...) }

func headers(id, flags int, b ...byte) []byte { return append(head(len(b), 1, flags, id), b...) }

func more(id, flags int, b ...byte) []byte { return append(head(len(b), 9, flags, id), b...) }

func reset(id, code int) []byte { return append(head(4, 3, 0, id), num(code)...) }

func ping(flags int, b ...byte) []byte { return append(head(len(b), 6, flags, 0), b...) }

func away(id, code int) []byte { return append(head(8, 7, 0, 0), num(id, code)...) }

func grow(id, n int) []byte { return append(head(4, 8, 0, id), num(n)...) }

// sets is Settings with pairs, an id and a value each.
func sets(flags int, pairs ...int) []byte {
	b := head(3*len(pairs), 4, flags, 0)
	for i := 0; i < len(pairs); i += 2 {
		b = append(b, byte(pairs[i]>>8), byte(pairs[i]))
		b = append(b, num(pairs[i+1])...)
	}
	return b
}

// greeting is what an engine sends first.
func greeting(k core.Config) []byte {
	return sets(0, 1, k.Table, 3, k.Streams, 4, k.Window, 6, k.List)
}

// join is bytes, one behind the other.
func join(l ...[]byte) []byte { return slices.Concat(l...) }

// What events are.

func asked(id int, end bool, l []api.Field) core.Event {
	return core.Event{Kind: 0, Stream: id, Fields: l, End: end}
}

func body(id int, end bool, b ...byte) core.Event {
	return core.Event{Kind: 1, Stream: id, Bytes: b, End: end}
}

func trailers(id int, l []api.Field) core.Event {
	return core.Event{Kind: 2, Stream: id, Fields: l, End: true}
}

func gone(id int, code api.Code) core.Event { return core.Event{Kind: 3, Stream: id, Code: code} }

func failed(id int, code api.Code) core.Event { return core.Event{Kind: 4, Stream: id, Code: code} }

func leaves(id int, code api.Code) core.Event { return core.Event{Kind: 5, Stream: id, Code: code} }

func over(code api.Code) core.Event { return core.Event{Kind: 6, Code: code} }

// short is what is told of something, if that is not too long.
func short(of any) string {
	s := fmt.Sprint(of)
	if len(s) > 300 {
		return s[:300] + ".."
	}
	return s
}

// sameEvent tells whether two events are one.
func sameEvent(x, y core.Event) bool {
	return x.Kind == y.Kind && x.Stream == y.Stream && x.End == y.End && x.Code == y.Code &&
		slices.Equal(x.Fields, y.Fields) && bytes.Equal(x.Bytes, y.Bytes)
}

// tells tells whether events are just those that are wanted.
func tells(t *testing.T, of string, l, want []core.Event) {
	t.Helper()
	if !slices.EqualFunc(l, want, sameEvent) {
		t.Errorf("of %s is told %s, not %s", of, short(l), short(want))
	}
}

// feeds tells whether just that is told of bytes that come.
func feeds(t *testing.T, e *engine.Engine, b []byte, want ...core.Event) {
	t.Helper()
	tells(t, short(b[:min(len(b), 50)]), e.Feed(b), want)
}

// drains tells whether just these bytes go, if so many are asked for.
func drains(t *testing.T, e *engine.Engine, n int, want []byte) {
	t.Helper()
	if b := e.Drain(n); !bytes.Equal(b, want) {
		t.Errorf("Drain of %d is %d bytes, %s, not %d, %s", n, len(b), short(b), len(want), short(want))
	}
}

// empties tells whether just these bytes are all that go.
func empties(t *testing.T, e *engine.Engine, want ...[]byte) {
	t.Helper()
	drains(t, e, 1<<30, join(want...))
	drains(t, e, 1, nil)
	if _, out := e.Kept(); out != 0 {
		t.Errorf("%d bytes wait", out)
	}
}

// keeps tells whether the intake, and the outlet, have so many bytes.
func keeps(t *testing.T, e *engine.Engine, in, out int) {
	t.Helper()
	if i, o := e.Kept(); i != in || o != out {
		t.Errorf("kept are %d, %d, not %d, %d", i, o, in, out)
	}
}

// stands tells whether an engine is over, and done.
func stands(t *testing.T, e *engine.Engine, over, done bool) {
	t.Helper()
	if e.Over() != over || e.Done() != done {
		t.Errorf("over %t, done %t, not %t, %t", e.Over(), e.Done(), over, done)
	}
}

// is tells whether an error is the one that is wanted.
func is(t *testing.T, of string, e, want api.Errno) {
	t.Helper()
	if e != want {
		t.Errorf("%s is %d, not %d", of, e, want)
	}
}

// resets tells whether Reset answers just that.
func resets(t *testing.T, e *engine.Engine, id int, code api.Code, want api.Errno, events ...core.Event) {
	t.Helper()
	l, err := e.Reset(id, code)
	tells(t, "Reset", l, events)
	is(t, "Reset", err, want)
}

// shuts tells whether Shutdown answers just that.
func shuts(t *testing.T, e *engine.Engine, want api.Errno, events ...core.Event) {
	t.Helper()
	l, err := e.Shutdown()
	tells(t, "Shutdown", l, events)
	is(t, "Shutdown", err, want)
}

// isOver tells whether an engine is over for good, and whether just these bytes go.
func isOver(t *testing.T, e *engine.Engine, want ...[]byte) {
	t.Helper()
	stands(t, e, true, false)
	again := func() {
		t.Helper()
		for _, b := range [][]byte{nil, {1}, preface, sets(0), ping(0, run(0, 8)...), headers(101, 5, asks...), head(16385, 0, 0, 0), make([]byte, 40000)} {
			feeds(t, e, b)
		}
		for _, id := range []int{0, 1, 2, 101} {
			is(t, "Respond", e.Respond(id, yes, true), api.ErrOver)
			is(t, "Data", e.Data(id, nil, true), api.ErrOver)
			resets(t, e, id, 8, api.ErrOver)
			resets(t, e, id, -1, api.ErrOver)
		}
		shuts(t, e, api.ErrOver)
		e.Tick()
		if in, _ := e.Kept(); in != 0 {
			t.Errorf("the intake has %d bytes", in)
		}
	}
	again()
	stands(t, e, true, false)
	empties(t, e, want...)
	stands(t, e, true, true)
	again()
	empties(t, e)
	stands(t, e, true, true)
}

// made is a new engine.
func made(t *testing.T, k core.Config) *engine.Engine {
	t.Helper()
	e, err := engine.New(k)
	if e == nil || err != api.OK {
		t.Fatalf("New(%v) is %v, %d", k, e, err)
	}
	return e
}

// greeted is an engine that is greeted, of which nothing waits, with these active
// streams, whose requests were without an end.
func greeted(t *testing.T, k core.Config, ids ...int) *engine.Engine {
	t.Helper()
	e := made(t, k)
	feeds(t, e, join(preface, sets(0)))
	empties(t, e, greeting(k), sets(1))
	for _, id := range ids {
		feeds(t, e, headers(id, 4, asks...), asked(id, false, get))
	}
	e.Tick()
	keeps(t, e, 0, 0)
	stands(t, e, false, false)
	return e
}

// P22.1: New: an engine, or the core's error.
func TestNew(t *testing.T) {
	for _, k := range []core.Config{small(), wide(), {Room: 1}, {Room: 64, List: 65535}} {
		e := made(t, k)
		keeps(t, e, 0, 0)
		stands(t, e, false, false)
		if in, out := e.Core().Windows(); in != 65535 || out != 65535 {
			t.Errorf("windows are %d, %d", in, out)
		}
		empties(t, e, greeting(k))
		stands(t, e, false, false)
		feeds(t, made(t, k), preface)
		keeps(t, e, 0, 0)
		feeds(t, e, preface[:5])
		keeps(t, e, 5, 0)
		empties(t, made(t, k), greeting(k))
	}
	wrong := []core.Config{{}}
	for _, change := range []func(*core.Config, int){
		func(k *core.Config, n int) { k.Table = n }, func(k *core.Config, n int) { k.List = n }, func(k *core.Config, n int) { k.Streams = n },
		func(k *core.Config, n int) { k.Window = n }, func(k *core.Config, n int) { k.Room = n }, func(k *core.Config, n int) { k.Cap = n },
		func(k *core.Config, n int) { k.Memory = n }, func(k *core.Config, n int) { k.Limits[5] = n },
	} {
		for _, n := range []int{-1, 65536, 1 << 32, math.MaxInt, math.MinInt} {
			k := small()
			change(&k, n)
			wrong = append(wrong, k)
		}
	}
	for _, k := range wrong {
		if e, err := engine.New(k); e != nil || err != api.ErrArg {
			t.Errorf("New(%v) is %v, %d", k, e, err)
		}
	}
}

// P22.1: the preface comes, byte by byte, or not; frames come behind it.
func TestPreface(t *testing.T) {
	for at := range 25 {
		for size := range 12 {
			e := made(t, small())
			for i, b := range preface[:at] {
				keeps(t, e, i, 0)
				feeds(t, e, []byte{b})
			}
			feeds(t, e, nil)
			keeps(t, e, at%24, 0)
			stands(t, e, false, false)
			feeds(t, e, join(preface[at:], sets(0), ping(0, run(0, 8)...)[:size]))
			keeps(t, e, size, 0)
			feeds(t, e, ping(0, run(0, 8)...)[size:])
			empties(t, e, greeting(small()), sets(1), ping(1, run(0, 8)...))
		}
	}
}

// P22.1: a byte of the preface that differs: Protocol, as soon as it comes.
func TestOtherPreface(t *testing.T) {
	for at, right := range preface {
		for _, wrong := range []byte{right + 1, right ^ 32, right ^ 128, 0, 255} {
			e := made(t, small())
			feeds(t, e, preface[:at])
			feeds(t, e, []byte{wrong}, over(1))
			isOver(t, e, greeting(small()), away(0, 1))
			e = made(t, small())
			feeds(t, e, join(preface[:at], []byte{wrong}, preface[at+1:], sets(0)), over(1))
			keeps(t, e, 0, 0)
			drains(t, e, 3, greeting(small())[:3])
			isOver(t, e, greeting(small())[3:], away(0, 1))
		}
	}
	for _, first := range [][]byte{
		[]byte("GET / HTTP/1.1"), []byte("pri"), sets(0), {0}, []byte("PRI * HTTP/2.0\n\nSM\n\n"), make([]byte, 100000), preface[1:], join(preface[:20], preface),
		head(16385, 0, 0, 0),
	} {
		e := made(t, small())
		feeds(t, e, first, over(1))
		isOver(t, e, greeting(small()), away(0, 1))
	}
	// Behind it, the preface is a frame that is too long.
	e := made(t, small())
	feeds(t, e, join(preface, preface), over(6))
	isOver(t, e, greeting(small()), away(0, 6))
}

// P22.1: what was queued when the preface is wrong is sent ahead: 50 bytes.
func TestOtherPrefaceSent(t *testing.T) {
	e := made(t, small())
	feeds(t, e, []byte("GET / HTTP/1.1"), over(1))
	stands(t, e, true, false)
	b := e.Drain(999)
	if len(b) != 50 || !bytes.Equal(b, join(greeting(small()), away(0, 1))) {
		t.Errorf("%v", b)
	}
	stands(t, e, true, true)
	e = made(t, small())
	shuts(t, e, api.OK)
	feeds(t, e, []byte("X"), over(1))
	isOver(t, e, greeting(small()), away(0, 0), away(0, 1))
}

// P22.1: a frame comes as soon as its last byte has come, however long that takes.
func TestFrameComes(t *testing.T) {
	for _, x := range []struct {
		b    []byte
		want core.Event
	}{
		{headers(5, 5, asks...), asked(5, true, get)}, {data(1, 0, run(0, 20)...), body(1, false, run(0, 20)...)}, {data(3, 1), body(3, true)},
		{headers(1, 5, blockOf(list("a", "b"))...), trailers(1, list("a", "b"))}, {reset(3, 256), gone(3, 256)}, {grow(1, 0), failed(1, 1)},
		{away(7, 1<<31), leaves(7, 1<<31)}, {ping(0, 1), over(6)}, {data(1, 0, run(0, 21)...), failed(1, 3)},
	} {
		e := greeted(t, small(), 1, 3)
		for i := range x.b {
			keeps(t, e, i, 0)
			feeds(t, e, nil)
			feeds(t, e, []byte{})
			if i < len(x.b)-1 {
				feeds(t, e, x.b[i:i+1])
			}
		}
		feeds(t, e, x.b[len(x.b)-1:], x.want)
		keeps(t, e, 0, 0)
		e = greeted(t, small(), 1, 3)
		feeds(t, e, x.b, x.want)
		keeps(t, e, 0, 0)
	}
}

// P22.1: all events, in order, of as many frames as come at once.
func TestManyFrames(t *testing.T) {
	all := join(
		preface, sets(0, 4, 100), headers(1, 4, asks...), ping(0, run(0, 8)...), data(1, 0, 1, 2), headers(3, 0, 130), more(3, 4, 132, 135),
		head(5, 200, 7, 9), run(0, 5), sets(1), data(1, 9, 1, 3, 0), headers(5, 4, asks[1:]...), reset(3, 8), away(0, 3),
	)
	want := []core.Event{asked(1, false, get), body(1, false, 1, 2), asked(3, false, get), body(1, true, 3), gone(3, 8), leaves(0, 3)}
	sent := [][]byte{greeting(wide()), sets(1), ping(1, run(0, 8)...), grow(0, 2), grow(1, 2), grow(0, 3), reset(5, 1)}
	e := made(t, wide())
	feeds(t, e, all, want...)
	empties(t, e, sent...)
	// With bytes of the next frame behind.
	e = made(t, wide())
	feeds(t, e, join(all, ping(0, run(0, 8)...)[:16]), want...)
	keeps(t, e, 16, 0)
	empties(t, e, sent...)
	feeds(t, e, []byte{9})
	empties(t, e, ping(1, 0, 1, 2, 3, 4, 5, 6, 9))
}

// P22.1: as many frames as any, of which each is told, by one call.
func TestVeryManyFrames(t *testing.T) {
	for _, length := range []int{0, 1, 7, 8, 100, 16383, 16384} {
		e := greeted(t, wide(), 1)
		count := 2000
		if length > 100 {
			count = 20
		}
		var want []core.Event
		for range count {
			want = append(want, leaves(3, 5))
		}
		unknown := append(head(length, 77, 255, 3), make([]byte, length)...)
		feeds(t, e, join(bytes.Repeat(join(unknown, away(3, 5)), count), unknown[:5]), want...)
		keeps(t, e, 5, 0)
		feeds(t, e, join(unknown[5:], data(1, 0, 7)), body(1, false, 7))
		empties(t, e, grow(0, 1), grow(1, 1))
	}
}

// P22.1: a frame that has more than 16384 bytes: FrameSize, by its first 9 bytes, whatever
// it is; one that has 16384 may be.
func TestTooLong(t *testing.T) {
	for _, length := range []int{16385, 16386, 20000, 32768, 65536, 1<<24 - 1} {
		for _, kind := range []int{0, 1, 2, 4, 6, 9, 10, 255} {
			for _, stream := range []int{0, 1, 2, 99, 1<<32 - 1} {
				b := head(length, kind, 5, stream)
				e := greeted(t, small(), 1)
				feeds(t, e, b[:8])
				keeps(t, e, 8, 0)
				feeds(t, e, b[8:], over(6))
				keeps(t, e, 0, 0)
				isOver(t, e, away(1, 6))
			}
		}
		e := greeted(t, small(), 1)
		feeds(t, e, join(ping(0, run(0, 8)...), head(length, 0, 0, 1), make([]byte, length), ping(0, run(0, 8)...)), over(6))
		isOver(t, e, ping(1, run(0, 8)...), away(1, 6))
		// It is so even where no such frame could come.
		e = made(t, small())
		feeds(t, e, join(preface, head(length, 0, 0, 1)), over(6))
		isOver(t, e, greeting(small()), away(0, 6))
		e = greeted(t, small(), 1)
		feeds(t, e, join(headers(3, 0, 130), head(length, 0, 0, 1)), over(6))
		isOver(t, e, away(1, 6))
	}
	for length := 16380; length <= 16384; length++ {
		e := greeted(t, wide(), 1)
		b := data(1, 0, run(3, length)...)
		feeds(t, e, b[:9])
		feeds(t, e, b[9:len(b)-1])
		keeps(t, e, 8+length, 0)
		feeds(t, e, b[len(b)-1:], body(1, false, run(3, length)...))
		empties(t, e, grow(0, length), grow(1, length))
		feeds(t, e, append(head(length, 99, 3, 3), make([]byte, length)...))
		keeps(t, e, 0, 0)
		stands(t, e, false, false)
	}
}

// P22.1: the highest bit of a stream is not looked at.
func TestHighestBit(t *testing.T) {
	e := greeted(t, small())
	feeds(t, e, headers(1<<31+1, 4, asks...), asked(1, false, get))
	feeds(t, e, data(1<<31+1, 1, 7), body(1, true, 7))
	feeds(t, e, append(head(8, 6, 0, 1<<31), run(0, 8)...))
	empties(t, e, grow(0, 1), ping(1, run(0, 8)...))
}

// P22.1, P21.2: behind what lets the core fail nothing is told, whatever came with it, and
// nothing of it is kept.
func TestBehindOver(t *testing.T) {
	for _, x := range []struct {
		b    []byte
		code int
		sent []byte
	}{
		{ping(0, 1, 2), 6, nil}, {headers(2, 5, asks...), 1, nil}, {data(5, 0, 1), 1, nil}, {headers(5, 5, 128), 9, nil}, {append(head(6, 4, 0, 0), 0, 2, 0, 0, 0, 2), 1, nil},
		{grow(0, 1<<31-1), 3, nil}, {more(1, 4), 1, nil}, {bytes.Repeat(ping(0, run(0, 8)...), 4), 11, bytes.Repeat(ping(1, run(0, 8)...), 3)},
	} {
		for _, behind := range [][]byte{
			nil, {1}, ping(0, run(0, 8)...), headers(3, 5, asks...), join(data(1, 0, 7), head(16385, 0, 0, 0)), preface, make([]byte, 50000),
		} {
			e := greeted(t, small(), 1)
			feeds(t, e, join(data(1, 0, 7), x.b, behind), body(1, false, 7), over(api.Code(x.code)))
			keeps(t, e, 0, 0)
			isOver(t, e, grow(0, 1), grow(1, 1), x.sent, away(1, x.code))
			e = greeted(t, small(), 1)
			feeds(t, e, join(data(1, 0, 7), x.b[:3]), body(1, false, 7))
			feeds(t, e, join(x.b[3:], behind), over(api.Code(x.code)))
			isOver(t, e, grow(0, 1), grow(1, 1), x.sent, away(1, x.code))
		}
	}
}

// P22.1: what is said is the core's, and so are its errors.
func TestSaid(t *testing.T) {
	e := greeted(t, small(), 1, 3)
	long := append(slices.Clone(yes), list("a", strings.Repeat("\x01", 20000))...)
	for _, id := range []int{5, 0, 2, -1, math.MaxInt} {
		is(t, "Respond", e.Respond(id, yes, true), api.ErrNone)
		is(t, "Data", e.Data(id, nil, true), api.ErrNone)
		resets(t, e, id, 8, api.ErrNone)
	}
	for _, l := range [][]api.Field{nil, get, long} {
		is(t, "Respond", e.Respond(1, l, true), api.ErrArg)
	}
	is(t, "Data", e.Data(1, nil, true), api.ErrState)
	resets(t, e, 1, -1, api.ErrArg)
	resets(t, e, 1, 1<<32, api.ErrArg)
	is(t, "Respond", e.Respond(1, yes, false), api.OK)
	is(t, "Respond", e.Respond(1, yes, false), api.ErrState)
	is(t, "Data", e.Data(1, run(0, 31), true), api.ErrFull)
	is(t, "Data", e.Data(1, run(0, 5), false), api.OK)
	is(t, "Data", e.Data(1, run(5, 25), true), api.OK)
	is(t, "Data", e.Data(1, nil, true), api.ErrState)
	resets(t, e, 3, 1<<32-1, api.OK)
	resets(t, e, 3, 0, api.ErrNone)
	shuts(t, e, api.OK)
	shuts(t, e, api.ErrState)
	keeps(t, e, 0, 0)
	empties(t, e, reset(3, 1<<32-1), away(3, 0), headers(1, 4, 32, 136), data(1, 1, run(0, 30)...))
	is(t, "Respond", e.Respond(1, yes, false), api.ErrState)
	stands(t, e, false, false)
	feeds(t, e, data(1, 1), body(1, true))
	stands(t, e, false, true)
}

// P22.1, P21.2: a Reset, or a Shutdown, for which there is no room in the queue, lets the
// core fail; what came of a frame is kept no longer.
func TestSaidEnds(t *testing.T) {
	pings := bytes.Repeat(ping(0, run(0, 8)...), 3)
	for _, call := range []func(e *engine.Engine){
		func(e *engine.Engine) { resets(t, e, 1, 8, api.OK, over(11)) }, func(e *engine.Engine) { shuts(t, e, api.OK, over(11)) },
	} {
		for _, came := range []int{0, 1, 16} {
			e := greeted(t, small(), 1, 3)
			feeds(t, e, pings)
			e.Tick()
			feeds(t, e, pings)
			e.Tick()
			feeds(t, e, pings[:came])
			is(t, "Respond", e.Respond(3, yes, true), api.OK)
			keeps(t, e, came, 0)
			drains(t, e, 0, nil)
			call(e)
			keeps(t, e, 0, 0)
			feeds(t, e, pings[came:])
			isOver(t, e, bytes.Repeat(ping(1, run(0, 8)...), 6), away(3, 11))
		}
	}
}

// P22.1: Drain: the first n bytes, or as many as there are; the core's next frame is asked
// for just while fewer wait.
func TestDrain(t *testing.T) {
	all := join(ping(1, run(0, 8)...), reset(3, 8), headers(1, 4, 32, 136), data(1, 0, run(0, 9)...))
	ends := []int{0, 17, 30, 41, 59}
	ready := func() *engine.Engine {
		e := greeted(t, small(), 1, 3)
		feeds(t, e, ping(0, run(0, 8)...))
		resets(t, e, 3, 8, api.OK)
		is(t, "Respond", e.Respond(1, yes, false), api.OK)
		is(t, "Data", e.Data(1, run(0, 9), false), api.OK)
		return e
	}
	waiting := func(e *engine.Engine) int {
		h := e.Core().Held()
		n := h.Frames
		if h.Heads > 0 {
			n++
		}
		if h.Waiting > 0 {
			n++
		}
		return n
	}
	for n := range 65 {
		for then := range 65 {
			e := ready()
			went := 0
			for _, ask := range []int{n, 0, -1, math.MinInt, then} {
				ask = max(ask, -9)
				to := min(went+max(ask, 0), 59)
				drains(t, e, ask, all[went:to])
				went = to
				frames, _ := slices.BinarySearch(ends, went)
				keeps(t, e, 0, ends[frames]-went)
				if waiting(e) != 4-frames {
					t.Errorf("behind %d, %d: %d frames are left", n, then, waiting(e))
				}
			}
			empties(t, e, all[went:])
		}
	}
	for _, n := range []int{59, 60, 1 << 31, 1 << 62, math.MaxInt} {
		e := ready()
		drains(t, e, math.MinInt, nil)
		drains(t, e, n, all)
		drains(t, e, n, nil)
		drains(t, e, 0, nil)
	}
}

// P22.1, P22.3: what was drained in part is whole ahead of what comes later, which is
// ahead of what the streams have to send.
func TestDrainOrder(t *testing.T) {
	e := greeted(t, small(), 1, 3)
	for _, id := range []int{3, 1} {
		is(t, "Respond", e.Respond(id, yes, false), api.OK)
		is(t, "Data", e.Data(id, run(id, 7), true), api.OK)
	}
	drains(t, e, 12, join(headers(1, 4, 32, 136), data(1, 1, run(1, 7)...)[:1]))
	keeps(t, e, 0, 15)
	feeds(t, e, ping(0, run(0, 8)...))
	keeps(t, e, 0, 15)
	drains(t, e, 20, join(data(1, 1, run(1, 7)...)[1:], ping(1, run(0, 8)...)[:5]))
	feeds(t, e, data(3, 0, 9), body(3, false, 9))
	empties(t, e, ping(1, run(0, 8)...)[5:], grow(0, 1), grow(3, 1), headers(3, 4, 32, 136), data(3, 1, run(3, 7)...))
}

// P22.3: what waits when its stream, or the connection, ends is drained whole.
func TestDrainWhole(t *testing.T) {
	wait := func(at int) *engine.Engine {
		e := greeted(t, small(), 1, 3)
		feeds(t, e, sets(0, 4, 5))
		is(t, "Respond", e.Respond(1, yes, false), api.OK)
		is(t, "Data", e.Data(1, run(1, 20), true), api.OK)
		drains(t, e, 20+at, join(sets(1), headers(1, 4, 32, 136), data(1, 0, run(1, 5)...)[:at]))
		keeps(t, e, 0, 14-at)
		return e
	}
	for at := 1; at < 14; at++ {
		rest := data(1, 0, run(1, 5)...)[at:]
		e := wait(at)
		feeds(t, e, reset(1, 8), gone(1, 8))
		empties(t, e, rest)
		e = wait(at)
		resets(t, e, 1, 8, api.OK)
		empties(t, e, rest, reset(1, 8))
		e = wait(at)
		feeds(t, e, join(ping(0, run(0, 8)...), grow(1, 3), ping(0, 1)), over(6))
		isOver(t, e, rest, ping(1, run(0, 8)...), away(3, 6))
		e = wait(at)
		shuts(t, e, api.OK)
		feeds(t, e, grow(1, 15))
		empties(t, e, rest, away(3, 0), data(1, 1, run(6, 15)...))
	}
}

// P22.1: Done: the core is, and nothing waits in the outlet.
func TestDone(t *testing.T) {
	e := greeted(t, small(), 1)
	shuts(t, e, api.OK)
	feeds(t, e, reset(1, 0), gone(1, 0))
	for i := range 16 {
		stands(t, e, false, false)
		drains(t, e, 1, away(1, 0)[i:i+1])
	}
	if !e.Core().Done() {
		t.Error("the core is not done")
	}
	stands(t, e, false, false)
	drains(t, e, 1, []byte{0})
	stands(t, e, false, true)
	// A ping may come yet.
	feeds(t, e, ping(0, run(0, 8)...))
	stands(t, e, false, false)
	empties(t, e, ping(1, run(0, 8)...))
	stands(t, e, false, true)
	feeds(t, e, ping(0), over(6))
	stands(t, e, true, false)
	drains(t, e, 16, away(1, 6)[:16])
	stands(t, e, true, false)
	drains(t, e, 16, away(1, 6)[16:])
	stands(t, e, true, true)
	// Neither over, nor leaving: it is not done, whatever was drained.
	e = greeted(t, small())
	stands(t, e, false, false)
}

// P22.1: a request, a response 204, and a Shutdown: 70 bytes, and it is done.
func TestExample(t *testing.T) {
	e := made(t, small())
	feeds(t, e, join(preface, sets(0), headers(1, 5, asks...)), asked(1, true, get))
	is(t, "Respond", e.Respond(1, list(":status", "204"), true), api.OK)
	shuts(t, e, api.OK)
	b := e.Drain(999)
	if len(b) != 70 || !bytes.Equal(b, join(greeting(small()), sets(1), away(1, 0), headers(1, 5, 32, 137))) {
		t.Errorf("%v", b)
	}
	stands(t, e, false, true)
}

// P22.1: Tick is the core's: without it, the fourth Ping is one too many.
func TestTick(t *testing.T) {
	b := ping(0, run(0, 8)...)
	for _, ticks := range []bool{true, false} {
		e := greeted(t, small())
		for range 3 {
			feeds(t, e, b)
		}
		if ticks {
			e.Tick()
			feeds(t, e, b)
			empties(t, e, bytes.Repeat(ping(1, run(0, 8)...), 4))
			stands(t, e, false, false)
		} else {
			feeds(t, e, b, over(11))
			isOver(t, e, bytes.Repeat(ping(1, run(0, 8)...), 3), away(0, 11))
		}
	}
	// 7 Pings that were not drained, and room for 6.
	k := small()
	k.Limits[1] = 100
	e := greeted(t, k)
	feeds(t, e, bytes.Repeat(b, 7), over(11))
	isOver(t, e, bytes.Repeat(ping(1, run(0, 8)...), 6), away(0, 11))
}

// P22.1: Core is the engine's own, the same each time.
func TestCore(t *testing.T) {
	e, other := greeted(t, small(), 1, 3), greeted(t, small())
	c := e.Core()
	if c == nil || c == other.Core() || c != e.Core() || !slices.Equal(c.Active(), []int{1, 3}) {
		t.Error("not the engine's core")
	}
	feeds(t, e, headers(5, 0, 130, 132))
	if h := c.Held(); h != (core.Held{Block: 2, Streams: 2}) || c != e.Core() {
		t.Errorf("held is %v", h)
	}
	feeds(t, e, reset(1, 0), over(1))
	if !c.Over() || other.Over() || other.Core().Over() {
		t.Error("not over")
	}
}

// P22.1: on a nil engine.
func TestNil(t *testing.T) {
	var e *engine.Engine
	for range 2 {
		for _, b := range [][]byte{nil, {1}, preface, make([]byte, 50000)} {
			feeds(t, e, b)
		}
		for _, id := range []int{0, 1, 2, -1, math.MaxInt} {
			is(t, "Respond", e.Respond(id, yes, true), api.ErrArg)
			is(t, "Respond", e.Respond(id, nil, false), api.ErrArg)
			is(t, "Data", e.Data(id, []byte{1}, true), api.ErrArg)
			resets(t, e, id, 8, api.ErrArg)
			resets(t, e, id, -1, api.ErrArg)
		}
		shuts(t, e, api.ErrArg)
		e.Tick()
		for _, n := range []int{0, 1, -1, 9, math.MaxInt, math.MinInt} {
			drains(t, e, n, nil)
		}
		keeps(t, e, 0, 0)
		stands(t, e, false, false)
		if e.Core() != nil {
			t.Error("a core")
		}
	}
}
