package core_test

import (
	"bytes"
	"fmt"
	"math"
	"slices"
	"strings"
	"testing"

	"gantlet/api"
	"gantlet/block"
	"gantlet/core"
)

// The document's numbers, told again.
const (
	begin      = 65535
	mostWindow = 2147483647
	mostID     = 2147483647
	mostCode   = 4294967295
	minFrame   = 16384
)

// noCode are numbers that are no codes.
var noCode = []int{
	-1, -2, -256, -1 << 31, -1 << 32, -1<<32 + 1, mostCode + 1, mostCode + 2, 1<<32 + 256, 1 << 33, math.MaxInt, math.MinInt,
	math.MinInt + 1,
}

// small is a configuration with little room.
func small() core.Config {
	return core.Config{Table: 200, List: 300, Streams: 3, Window: 20, Room: 6, Cap: 30, Memory: 2, Limits: [6]int{3, 3, 3, 3, 6, 2}}
}

// wide is one with much room.
func wide() core.Config {
	return core.Config{
		Table: 4096, List: 65535, Streams: 100, Window: 65535, Room: 64, Cap: 65535, Memory: 100,
		Limits: [6]int{10000, 10000, 10000, 10000, 10000, 10000},
	}
}

// list is that of names and values.
func list(texts ...string) []api.Field {
	var l []api.Field
	for i := 0; i < len(texts); i += 2 {
		l = append(l, api.Field{Name: texts[i], Value: texts[i+1]})
	}
	return l
}

// get is a request without a length; its list's size is 124.
var get = list(":method", "GET", ":path", "/", ":scheme", "https")

// yes is a response.
var yes = list(":status", "200")

// post is a request with a length.
func post(length string) []api.Field {
	return append(list(":method", "POST", ":path", "/", ":scheme", "https"), list("content-length", length)...)
}

// blockOf is the bytes of a list, that leave the table as it is.
func blockOf(l []api.Field) []byte {
	b, e := block.Encode(l, false)
	if e != api.OK {
		panic("no such block")
	}
	return b
}

// num is the bytes of numbers, 4 of each.
func num(l ...int) []byte {
	var b []byte
	for _, n := range l {
		b = append(b, byte(n>>24), byte(n>>16), byte(n>>8), byte(n))
	}
	return b
}

// run is so many bytes, that rise from one on.
func run(from, count int) []byte {
	b := make([]byte, count)
	for i := range b {
		b[i] = byte(from + i)
	}
	return b
}

// What frames are, as they come, or are sent.

func data(id, flags int, b ...byte) api.Frame {
	return api.Frame{Kind: 0, Flags: flags, Stream: id, Payload: b}
}

func headers(id, flags int, b ...byte) api.Frame {
	return api.Frame{Kind: 1, Flags: flags, Stream: id, Payload: b}
}

func more(id, flags int, b ...byte) api.Frame {
	return api.Frame{Kind: 9, Flags: flags, Stream: id, Payload: b}
}

func priority(id, on int) api.Frame {
	return api.Frame{Kind: 2, Stream: id, Payload: append(num(on), 7)}
}

func reset(id int, code api.Code) api.Frame {
	return api.Frame{Kind: 3, Stream: id, Payload: num(int(code))}
}

// asks is Settings with pairs, an id and a value each.
func asks(pairs ...int) api.Frame {
	f := api.Frame{Kind: 4}
	for i := 0; i < len(pairs); i += 2 {
		f.Payload = append(f.Payload, byte(pairs[i]>>8), byte(pairs[i]))
		f.Payload = append(f.Payload, num(pairs[i+1])...)
	}
	return f
}

func ping(b ...byte) api.Frame { return api.Frame{Kind: 6, Payload: b} }

func ack(kind api.Kind, b ...byte) api.Frame {
	return api.Frame{Kind: kind, Flags: 1, Payload: b}
}

func away(id int, code api.Code) api.Frame {
	return api.Frame{Kind: 7, Payload: num(id, int(code))}
}

func grow(id, n int) api.Frame {
	return api.Frame{Kind: 8, Stream: id, Payload: num(n)}
}

// What events are.

func asked(id int, end bool, l []api.Field) core.Event {
	return core.Event{Kind: 0, Stream: id, Fields: l, End: end}
}

func body(id int, end bool, b ...byte) core.Event {
	return core.Event{Kind: 1, Stream: id, Bytes: b, End: end}
}

func trailers(id int, end bool, l []api.Field) core.Event {
	return core.Event{Kind: 2, Stream: id, Fields: l, End: end}
}

func gone(id int, code api.Code) core.Event {
	return core.Event{Kind: 3, Stream: id, Code: code}
}

func failed(id int, code api.Code) core.Event {
	return core.Event{Kind: 4, Stream: id, Code: code}
}

func leaves(id int, code api.Code) core.Event {
	return core.Event{Kind: 5, Stream: id, Code: code}
}

func over(code api.Code) core.Event { return core.Event{Kind: 6, Code: code} }

// short is what is told of something, if that is not too long.
func short(of any) string {
	s := fmt.Sprint(of)
	if len(s) > 300 {
		return s[:300] + ".."
	}
	return s
}

// sameEvent tells whether two events are one.
func sameEvent(x, y core.Event) bool {
	return x.Kind == y.Kind && x.Stream == y.Stream && x.End == y.End && x.Code == y.Code &&
		slices.Equal(x.Fields, y.Fields) && bytes.Equal(x.Bytes, y.Bytes)
}

// tells tells whether events are just those that are wanted.
func tells(t *testing.T, of string, l, want []core.Event) {
	t.Helper()
	if !slices.EqualFunc(l, want, sameEvent) {
		t.Errorf("of %s is told %s, not %s", of, short(l), short(want))
	}
}

// comes tells whether Frame answers just that.
func comes(t *testing.T, c *core.Core, f api.Frame, want ...core.Event) {
	t.Helper()
	tells(t, short(f), c.Frame(f), want)
}

// responds tells whether Respond answers just that.
func responds(t *testing.T, c *core.Core, id int, l []api.Field, last bool, want api.Errno) {
	t.Helper()
	if e := c.Respond(id, l, last); e != want {
		t.Errorf("Respond(%d, %s, %t) is %d, not %d", id, short(l), last, e, want)
	}
}

// says tells whether Data answers just that.
func says(t *testing.T, c *core.Core, id int, b []byte, last bool, want api.Errno) {
	t.Helper()
	if e := c.Data(id, b, last); e != want {
		t.Errorf("Data of %d, of %d bytes, %t, is %d, not %d", id, len(b), last, e, want)
	}
}

// resets tells whether Reset answers just that.
func resets(t *testing.T, c *core.Core, id int, code api.Code, want api.Errno, events ...core.Event) {
	t.Helper()
	l, e := c.Reset(id, code)
	tells(t, "Reset", l, events)
	if e != want {
		t.Errorf("Reset(%d, %d) is %d, not %d", id, code, e, want)
	}
}

// shuts tells whether Shutdown answers just that.
func shuts(t *testing.T, c *core.Core, want api.Errno, events ...core.Event) {
	t.Helper()
	l, e := c.Shutdown()
	tells(t, "Shutdown", l, events)
	if e != want {
		t.Errorf("Shutdown is %d, not %d", e, want)
	}
}

// sends tells whether just these frames are sent.
func sends(t *testing.T, c *core.Core, want ...api.Frame) {
	t.Helper()
	for i, f := range want {
		if g, ok := c.Pull(); !ok || !same(g, f) {
			t.Errorf("%d: sent is %s, %t, not %s", i, short(g), ok, short(f))
		}
	}
	if f, ok := c.Pull(); ok || f.Payload != nil || !same(f, api.Frame{}) {
		t.Errorf("sent is %s, %t, too", short(f), ok)
	}
}

// has tells whether a core has just so much, and just these active ids.
func has(t *testing.T, c *core.Core, held core.Held, active ...int) {
	t.Helper()
	if h := c.Held(); h != held {
		t.Errorf("held is %v, not %v", h, held)
	}
	if l := c.Active(); !slices.Equal(l, active) {
		t.Errorf("active are %v, not %v", l, active)
	}
}

// windows tells whether the connection's are these.
func windows(t *testing.T, c *core.Core, in, out int) {
	t.Helper()
	if i, o := c.Windows(); i != in || o != out {
		t.Errorf("windows are %d, %d, not %d, %d", i, o, in, out)
	}
}

// isOver tells whether a core is over: nothing is told any more, all is ErrOver, and just
// these frames are sent.
func isOver(t *testing.T, c *core.Core, sent ...api.Frame) {
	t.Helper()
	if !c.Over() || c.Done() {
		t.Errorf("over %t, done %t", c.Over(), c.Done())
	}
	for _, f := range []api.Frame{
		asks(), ping(run(0, 8)...), data(1, 1, 1), headers(101, 5, blockOf(get)...), more(1, 4), reset(1, 0), away(0, 0), grow(0, 1), {Kind: 5},
		{Kind: 999}, ping(),
	} {
		comes(t, c, f)
	}
	tells(t, "Broken", c.Broken(2), nil)
	for _, id := range []int{1, 3, 2, 0, -1} {
		responds(t, c, id, yes, true, api.ErrOver)
		responds(t, c, id, nil, false, api.ErrOver)
		says(t, c, id, nil, true, api.ErrOver)
		says(t, c, id, make([]byte, 1<<17), false, api.ErrOver)
		resets(t, c, id, 8, api.ErrOver)
		resets(t, c, id, -1, api.ErrOver)
	}
	shuts(t, c, api.ErrOver)
	if h := c.Held(); h.Waiting != 0 || h.Heads != 0 || h.Frames != len(sent) {
		t.Errorf("held is %v", h)
	}
	sends(t, c, sent...)
	if !c.Over() || !c.Done() {
		t.Errorf("at last over %t, done %t", c.Over(), c.Done())
	}
	comes(t, c, asks())
	tells(t, "Broken", c.Broken(2), nil)
	shuts(t, c, api.ErrOver)
	sends(t, c)
}

// made is a new core.
func made(t *testing.T, k core.Config) *core.Core {
	t.Helper()
	c, e := core.New(k)
	if c == nil || e != api.OK {
		t.Fatalf("New(%v) is %v, %d", k, c, e)
	}
	return c
}

// greeted is a core that is greeted, whose queue is empty, with these active streams,
// whose requests were without an end.
func greeted(t *testing.T, k core.Config, ids ...int) *core.Core {
	t.Helper()
	c := made(t, k)
	comes(t, c, asks())
	for _, id := range ids {
		comes(t, c, headers(id, 4, blockOf(get)...), asked(id, false, get))
	}
	emptied(c)
	c.Tick()
	return c
}

// emptied is what a core sends, all of it.
func emptied(c *core.Core) []api.Frame {
	var l []api.Frame
	for f, ok := c.Pull(); ok; f, ok = c.Pull() {
		l = append(l, f)
	}
	return l
}

// fulled lets a core's queue have no room; it is the frames that are in it.
func fulled(t *testing.T, c *core.Core, room int) []api.Frame {
	t.Helper()
	var l []api.Frame
	for i := range room {
		c.Tick()
		comes(t, c, ping(run(i, 8)...))
		l = append(l, ack(6, run(i, 8)...))
	}
	c.Tick()
	if c.Over() || c.Held().Frames != room {
		t.Fatalf("the queue has %d", c.Held().Frames)
	}
	return l
}

// numberOf are the numbers of a configuration, each with its least and greatest one.
var numberOf = []struct {
	name        string
	least, most int
	of          func(*core.Config) *int
}{
	{"Table", 0, 4096, func(k *core.Config) *int { return &k.Table }},
	{"List", 0, 65535, func(k *core.Config) *int { return &k.List }},
	{"Window", 0, 65535, func(k *core.Config) *int { return &k.Window }},
	{"Cap", 0, 65535, func(k *core.Config) *int { return &k.Cap }},
	{"Streams", 0, 100, func(k *core.Config) *int { return &k.Streams }},
	{"Memory", 0, 100, func(k *core.Config) *int { return &k.Memory }},
	{"Room", 1, 64, func(k *core.Config) *int { return &k.Room }},
	{"Limits 0", 0, 10000, func(k *core.Config) *int { return &k.Limits[0] }},
	{"Limits 1", 0, 10000, func(k *core.Config) *int { return &k.Limits[1] }},
	{"Limits 2", 0, 10000, func(k *core.Config) *int { return &k.Limits[2] }},
	{"Limits 3", 0, 10000, func(k *core.Config) *int { return &k.Limits[3] }},
	{"Limits 4", 0, 10000, func(k *core.Config) *int { return &k.Limits[4] }},
	{"Limits 5", 0, 10000, func(k *core.Config) *int { return &k.Limits[5] }},
}

// P21.1: a configuration may be from each number's least one to its greatest, and no
// other: then there is no core, and ErrArg.
func TestRight(t *testing.T) {
	for _, x := range numberOf {
		for _, n := range []int{
			x.least, x.least + 1, x.most / 2, x.most - 1, x.most, x.least - 1, x.least - 2, x.most + 1, x.most + 2, 1 << 16, -1 << 16, 1 << 31,
			1 << 32, 1<<32 + 1, -1 << 31, -1 << 32, -1<<32 + 1, math.MaxInt, math.MinInt, math.MinInt + 1,
		} {
			for _, k := range []core.Config{small(), wide()} {
				*x.of(&k) = n
				right := x.least <= n && n <= x.most
				if core.Right(k) != right {
					t.Errorf("%s %d: Right is %t", x.name, n, !right)
				}
				c, e := core.New(k)
				if (c != nil) != right || (e == api.OK) != right || !right && e != api.ErrArg {
					t.Errorf("%s %d: New is %v, %d", x.name, n, c, e)
				}
			}
		}
	}
	if core.Right(core.Config{}) || !core.Right(core.Config{Room: 1}) || !core.Right(wide()) || !core.Right(small()) {
		t.Error("Right")
	}
}

// P21.1: a core's queue has Settings, of four pairs, in their order; else there is nothing.
func TestNew(t *testing.T) {
	for _, k := range []core.Config{
		small(), wide(), {Room: 1}, {Table: 1, List: 258, Streams: 3, Window: 1027, Room: 1, Cap: 5, Memory: 6}, {Table: 4096, Room: 64},
	} {
		c := made(t, k)
		windows(t, c, begin, begin)
		has(t, c, core.Held{Control: 24, Frames: 1})
		if c.Over() || c.Done() {
			t.Errorf("over %t, done %t", c.Over(), c.Done())
		}
		sends(t, c, asks(1, k.Table, 3, k.Streams, 4, k.Window, 6, k.List))
		has(t, c, core.Held{})
		if c.Over() || c.Done() {
			t.Errorf("over %t, done %t", c.Over(), c.Done())
		}
	}
}

// P21.1: Table is the decoder's bound.
func TestTable(t *testing.T) {
	for _, bound := range []int{0, 37, 38, 4096} {
		k := small()
		k.Table = bound
		c := greeted(t, k)
		// A SIZE as great as the bound, and :path a, which comes into the table.
		size := []byte{63, 0}
		size[1] = byte(bound - 31)
		if bound < 31 {
			size = []byte{32 | byte(bound)}
		} else if bound > 31+127 {
			size = []byte{63, byte((bound-31)%128) | 128, byte((bound - 31) / 128)}
		}
		comes(t, c, headers(1, 5, append(size, 130, 135, 68, 1, 97)...), asked(1, true, list(":method", "GET", ":scheme", "https", ":path", "a")))
		if want := 38 * min(bound/38, 1); c.Held().Table != want {
			t.Errorf("bound %d: the table has %d", bound, c.Held().Table)
		}
		size[len(size)-1]++
		comes(t, c, headers(3, 5, append(size, 130, 135, 132)...), over(9))
	}
}

// P21.1: Broken: the core fails with a code, if it is not over.
func TestBroken(t *testing.T) {
	for _, code := range []int{0, 1, 2, 11, 255, 256, 65536, 1 << 31, mostCode - 1, mostCode} {
		c := made(t, small())
		tells(t, "Broken", c.Broken(api.Code(code)), []core.Event{over(api.Code(code))})
		isOver(t, c, asks(1, 200, 3, 3, 4, 20, 6, 300), away(0, api.Code(code)))
		c = greeted(t, small(), 1, 7)
		responds(t, c, 7, yes, false, api.OK)
		says(t, c, 7, run(0, 9), false, api.OK)
		q := fulled(t, c, 6)
		tells(t, "Broken", c.Broken(api.Code(code)), []core.Event{over(api.Code(code))})
		has(t, c, core.Held{Control: 56, Frames: 7, Streams: 2}, 1, 7)
		isOver(t, c, append(q, away(7, api.Code(code)))...)
	}
}

// P21.1, P21.2: a code that no GoAway can tell: what is told is what is sent all the same.
func TestBrokenWrong(t *testing.T) {
	for _, code := range noCode {
		c := greeted(t, small(), 1)
		tells(t, "Broken", c.Broken(api.Code(code)), []core.Event{over(2)})
		isOver(t, c, away(1, 2))
	}
}

// P21.1: Tick: what came ahead does not count any more, but Continuations.
func TestTick(t *testing.T) {
	for i, f := range []api.Frame{reset(1, 0), ping(run(0, 8)...), asks(), data(1, 0), grow(0, 1)} {
		k := small()
		k.Limits[i] = 2
		c := greeted(t, k, 1)
		for range 20 {
			for range 2 {
				c.Frame(f)
				emptied(c)
			}
			if c.Over() {
				t.Fatalf("%d: over", i)
			}
			c.Tick()
		}
		c.Frame(f)
		c.Frame(f)
		emptied(c)
		comes(t, c, f, over(11))
		c.Tick()
		comes(t, c, f)
	}
	c := greeted(t, small())
	comes(t, c, headers(1, 0))
	for range 2 {
		comes(t, c, more(1, 0))
		c.Tick()
	}
	comes(t, c, more(1, 4), over(11))
}

// P21.1: Respond: the head of a response is said, its block as a first one; the last too.
func TestRespond(t *testing.T) {
	long := append(slices.Clone(yes), api.Field{Name: "a", Value: strings.Repeat("\"", 10000)})
	for _, l := range [][]api.Field{
		yes, list(":status", "599", "content-length", "7", "a", ""), list(":status", "204"), long,
	} {
		b := append([]byte{32}, blockOf(l)...)
		c := greeted(t, small(), 1)
		responds(t, c, 1, l, false, api.OK)
		has(t, c, core.Held{Heads: len(b), Streams: 1}, 1)
		responds(t, c, 1, l, true, api.ErrState)
		sends(t, c, headers(1, 4, b...))
		has(t, c, core.Held{Streams: 1}, 1)
		responds(t, c, 1, l, false, api.ErrState)
		c = greeted(t, small(), 1)
		responds(t, c, 1, l, true, api.OK)
		says(t, c, 1, nil, true, api.ErrState)
		sends(t, c, headers(1, 5, b...))
		responds(t, c, 1, l, true, api.ErrState)
	}
}

// P21.1: of a block that has 16384 bytes, and of one that has one more.
func TestRespondLong(t *testing.T) {
	of := func(n int) []api.Field {
		return append(slices.Clone(yes), api.Field{Name: "a", Value: strings.Repeat("\x01", n)})
	}
	// The SIZE is one byte more.
	n := 0
	for len(blockOf(of(n)))+1 < minFrame {
		n++
	}
	c := greeted(t, small(), 1)
	responds(t, c, 1, of(n+1), false, api.ErrArg)
	responds(t, c, 1, of(n+1), true, api.ErrArg)
	responds(t, c, 1, of(65536), true, api.ErrArg)
	responds(t, c, 1, of(65537), true, api.ErrArg)
	has(t, c, core.Held{Streams: 1}, 1)
	responds(t, c, 1, of(n), false, api.OK)
	has(t, c, core.Held{Heads: minFrame, Streams: 1}, 1)
	// It is said: but the list is looked at first.
	responds(t, c, 1, of(n+1), false, api.ErrArg)
}

// P21.1: ErrNone, ErrArg, ErrState of a response, in this order; nothing is said then.
func TestRespondWrong(t *testing.T) {
	wrong := [][]api.Field{nil, list("a", "b"), list(":status", "199"), list(":status", "600"), list(":status", "20"), get, list(":status", "200", "A", "")}
	c := greeted(t, small(), 3, 5)
	resets(t, c, 3, 0, api.OK)
	comes(t, c, reset(5, 8), gone(5, 8))
	comes(t, c, headers(7, 4, blockOf(get)...), asked(7, false, get))
	emptied(c)
	for _, id := range []int{1, 3, 5, 9, 0, 2, -1, -7, 1 << 32, 1<<32 + 7, math.MaxInt, math.MinInt} {
		for _, l := range append(slices.Clone(wrong), yes) {
			responds(t, c, id, l, false, api.ErrNone)
			responds(t, c, id, l, true, api.ErrNone)
		}
	}
	for _, l := range wrong {
		responds(t, c, 7, l, true, api.ErrArg)
	}
	has(t, c, core.Held{Streams: 1, Late: 1}, 7)
	sends(t, c)
	responds(t, c, 7, yes, false, api.OK)
	for range 2 {
		for _, l := range wrong {
			responds(t, c, 7, l, true, api.ErrArg)
		}
		responds(t, c, 7, yes, true, api.ErrState)
		emptied(c)
	}
	says(t, c, 7, nil, true, api.OK)
	emptied(c)
	// It is gone from the sender, but active.
	for _, l := range wrong {
		responds(t, c, 7, l, true, api.ErrArg)
	}
	responds(t, c, 7, yes, true, api.ErrState)
	responds(t, c, 7, yes, false, api.ErrState)
	has(t, c, core.Held{Streams: 1, Late: 1}, 7)
}

// P21.1: Data: bytes wait, and go as there is room; the last is said.
func TestSay(t *testing.T) {
	c := greeted(t, small(), 1, 3)
	responds(t, c, 3, yes, false, api.OK)
	says(t, c, 3, run(0, 20), false, api.OK)
	has(t, c, core.Held{Heads: 2, Waiting: 20, Streams: 2}, 1, 3)
	says(t, c, 3, run(20, 10), false, api.OK)
	says(t, c, 3, nil, true, api.OK)
	has(t, c, core.Held{Heads: 2, Waiting: 30, Streams: 2}, 1, 3)
	sends(t, c, headers(3, 4, 32, 136), data(3, 1, run(0, 30)...))
	has(t, c, core.Held{Streams: 2}, 1, 3)
	windows(t, c, begin, begin-30)
}

// P21.1: ErrNone, and the sender's errors; of a stream that is gone from it ErrState.
func TestSayWrong(t *testing.T) {
	c := greeted(t, small(), 3, 5)
	comes(t, c, reset(3, 8), gone(3, 8))
	for _, id := range []int{1, 3, 7, 0, 2, -1, -5, 1<<32 + 5, math.MaxInt, math.MinInt} {
		says(t, c, id, nil, false, api.ErrNone)
		says(t, c, id, run(0, 31), true, api.ErrNone)
	}
	says(t, c, 5, nil, true, api.ErrState)
	says(t, c, 5, run(0, 31), true, api.ErrState)
	responds(t, c, 5, yes, false, api.OK)
	says(t, c, 5, run(0, 31), true, api.ErrFull)
	says(t, c, 5, run(0, 30), false, api.OK)
	says(t, c, 5, run(0, 1), true, api.ErrFull)
	has(t, c, core.Held{Heads: 2, Waiting: 30, Streams: 1}, 5)
	says(t, c, 5, nil, true, api.OK)
	says(t, c, 5, nil, true, api.ErrState)
	says(t, c, 5, run(0, 31), true, api.ErrState)
	emptied(c)
	says(t, c, 5, nil, true, api.ErrState)
	says(t, c, 5, run(0, 31), false, api.ErrState)
	has(t, c, core.Held{Streams: 1}, 5)
}

// P21.1: Reset: an active stream is closed, late, and gone from the sender; Reset with the
// code is queued; no event tells.
func TestReset(t *testing.T) {
	for _, code := range []int{0, 1, 8, 255, 256, 1 << 31, mostCode} {
		c := greeted(t, small(), 1, 3, 5)
		responds(t, c, 3, yes, false, api.OK)
		says(t, c, 3, run(0, 9), true, api.OK)
		resets(t, c, 3, api.Code(code), api.OK)
		has(t, c, core.Held{Control: 4, Frames: 1, Streams: 2, Late: 1}, 1, 5)
		resets(t, c, 3, api.Code(code), api.ErrNone)
		sends(t, c, reset(3, api.Code(code)))
		comes(t, c, data(3, 1, 1))
		sends(t, c, grow(0, 1))
		resets(t, c, 1, 0, api.OK)
		resets(t, c, 5, 2, api.OK)
		sends(t, c, reset(1, 0), reset(5, 2))
		has(t, c, core.Held{Late: 2})
		// Memory is 2: the first one that became late is past now.
		comes(t, c, data(3, 1, 1), over(5))
	}
}

// P21.1: ErrNone, ErrArg of a Reset, in this order; nothing happens then.
func TestResetWrong(t *testing.T) {
	c := greeted(t, small(), 1, 3)
	comes(t, c, reset(1, 8), gone(1, 8))
	for _, id := range []int{1, 5, 0, 2, -1, -3, 1<<32 + 3, math.MaxInt, math.MinInt} {
		for _, code := range append(slices.Clone(noCode), 0, 8) {
			resets(t, c, id, api.Code(code), api.ErrNone)
		}
	}
	for _, code := range noCode {
		resets(t, c, 3, api.Code(code), api.ErrArg)
	}
	has(t, c, core.Held{Streams: 1}, 3)
	sends(t, c)
}

// P21.1: Shutdown: it is leaving; GoAway, with the highest id, and NoError, is queued;
// what was active goes on, what is new does nothing; ErrState the second time.
func TestShutdown(t *testing.T) {
	c := greeted(t, small(), 1, 9)
	shuts(t, c, api.OK)
	for range 3 {
		shuts(t, c, api.ErrState)
	}
	has(t, c, core.Held{Control: 8, Frames: 1, Streams: 2}, 1, 9)
	sends(t, c, away(9, 0))
	if c.Done() || c.Over() {
		t.Error("done")
	}
	// What comes of a stream that was not begun is read, but nothing is told.
	comes(t, c, headers(11, 5, 130, 135, 68, 1, 97))
	has(t, c, core.Held{Table: 38, Streams: 2}, 1, 9)
	comes(t, c, headers(11, 4, 130, 135, 190))
	sends(t, c)
	comes(t, c, data(9, 1, 5), body(9, true, 5))
	responds(t, c, 9, yes, true, api.OK)
	sends(t, c, grow(0, 1), headers(9, 5, 32, 136))
	has(t, c, core.Held{Table: 38, Streams: 1}, 1)
	if c.Done() {
		t.Error("done")
	}
	comes(t, c, reset(1, 8), gone(1, 8))
	if !c.Done() || c.Over() {
		t.Error("not done")
	}
	comes(t, c, ping(run(0, 8)...))
	if c.Done() {
		t.Error("done")
	}
	sends(t, c, ack(6, run(0, 8)...))
	shuts(t, c, api.ErrState)
	// It was not opened: so it is idle.
	comes(t, c, data(11, 1, 1), over(1))
	isOver(t, c, away(9, 1))
}

// P21.1: Done hangs on the queue, and on whether it is over, or leaves without streams.
func TestDone(t *testing.T) {
	is := func(c *core.Core, want bool) {
		t.Helper()
		if c.Done() != want {
			t.Errorf("done is %t", !want)
		}
	}
	c := made(t, small())
	shuts(t, c, api.OK)
	is(c, false)
	c.Pull()
	is(c, false)
	sends(t, c, away(0, 0))
	is(c, true)
	c = greeted(t, small(), 1)
	is(c, false)
	c.Broken(0)
	is(c, false)
	sends(t, c, away(1, 0))
	is(c, true)
	c = greeted(t, small())
	is(c, false)
}

// P21.1: Pull: the queue's frames, in order, ahead of the sender's, which go by ids.
func TestPull(t *testing.T) {
	c := greeted(t, small(), 1, 3)
	responds(t, c, 3, yes, true, api.OK)
	responds(t, c, 1, list(":status", "204"), false, api.OK)
	says(t, c, 1, []byte{7}, false, api.OK)
	comes(t, c, ping(run(0, 8)...))
	comes(t, c, data(1, 0, 1, 2), body(1, false, 1, 2))
	sends(t, c, ack(6, run(0, 8)...), grow(0, 2), grow(1, 2), headers(1, 4, 32, 137), data(1, 0, 7), headers(3, 5, 32, 136))
	windows(t, c, begin, begin-1)
}

// P21.1: as much is sent as the connection's window, the stream's and 16384 have room for,
// whatever Frame the peer asks for.
func TestPullRoom(t *testing.T) {
	c := greeted(t, wide(), 1, 3)
	comes(t, c, asks(4, 40000, 5, 1<<24-1))
	sends(t, c, ack(4))
	b := run(0, 65535)
	responds(t, c, 1, yes, false, api.OK)
	says(t, c, 1, b, true, api.OK)
	sends(t, c, headers(1, 4, 32, 136), data(1, 0, b[:16384]...), data(1, 0, b[16384:32768]...), data(1, 0, b[32768:40000]...))
	windows(t, c, begin, begin-40000)
	responds(t, c, 3, yes, false, api.OK)
	says(t, c, 3, b[:40000], false, api.OK)
	sends(t, c, headers(3, 4, 32, 136), data(3, 0, b[:16384]...), data(3, 0, b[16384:25535]...))
	windows(t, c, begin, 0)
	comes(t, c, grow(1, 50000))
	sends(t, c)
	comes(t, c, grow(0, 3))
	windows(t, c, begin, 3)
	sends(t, c, data(1, 0, b[40000:40003]...))
	comes(t, c, grow(0, 100000))
	sends(t, c, data(1, 0, b[40003:40003+16384]...), data(1, 1, b[40003+16384:]...), data(3, 0, b[25535:40000]...))
	windows(t, c, begin, 100000-(65535-40003)-(40000-25535))
	has(t, c, core.Held{Streams: 2}, 1, 3)
}

// P21.1: with the end sent, a stream is closed, not late, if the peer has said all; else it
// is active, and may be heard.
func TestPullEnd(t *testing.T) {
	for _, last := range []bool{false, true} {
		c := greeted(t, small(), 1)
		comes(t, c, headers(3, 5, blockOf(get)...), asked(3, true, get))
		for _, id := range []int{1, 3} {
			responds(t, c, id, yes, last, api.OK)
			if !last {
				says(t, c, id, []byte{5}, true, api.OK)
			}
		}
		if last {
			sends(t, c, headers(1, 5, 32, 136), headers(3, 5, 32, 136))
		} else {
			sends(t, c, headers(1, 4, 32, 136), data(1, 1, 5), headers(3, 4, 32, 136), data(3, 1, 5))
		}
		has(t, c, core.Held{Streams: 1}, 1)
		comes(t, c, data(1, 0, 7), body(1, false, 7))
		sends(t, c, grow(0, 1), grow(1, 1))
		comes(t, c, data(1, 1, 8), body(1, true, 8))
		sends(t, c, grow(0, 1))
		has(t, c, core.Held{})
		comes(t, c, data(3, 1), over(5))
	}
}

// P21.1: on a nil core.
func TestNil(t *testing.T) {
	var c *core.Core
	for _, id := range []int{0, 1, 2, -1, math.MaxInt} {
		responds(t, c, id, yes, true, api.ErrArg)
		responds(t, c, id, nil, false, api.ErrArg)
		says(t, c, id, nil, true, api.ErrArg)
		resets(t, c, id, 0, api.ErrArg)
		resets(t, c, id, -1, api.ErrArg)
	}
	for range 2 {
		comes(t, c, asks())
		comes(t, c, api.Frame{Kind: 256})
		tells(t, "Broken", c.Broken(1), nil)
		c.Tick()
		shuts(t, c, api.ErrArg)
		sends(t, c)
		has(t, c, core.Held{})
		windows(t, c, 0, 0)
		if c.Over() || c.Done() {
			t.Error("over, or done")
		}
	}
}
