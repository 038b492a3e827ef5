package send_test

import (
	"bytes"
	"maps"
	"math"
	"math/rand"
	"runtime"
	"slices"
	"testing"

	"gantlet/api"
	"gantlet/send"
)

// The document's numbers, told again.
const (
	greatestCap   = 65536
	greatestID    = 2147483647
	greatestBlock = 16384
	leastWindow   = -2147483648
	mostWindow    = 2147483647
	// plenty is room for all.
	plenty = math.MaxInt
)

// The frames' kinds and flags, told again.
const (
	data    = api.Kind(0)
	headers = api.Kind(1)
	end     = 1
	whole   = 4
)

// noCap are numbers that are no caps: some about the edges, some that would be caps, if
// they were cut to fewer bits.
var noCap = []int{
	-1, -2, 65537, 65538, -65536, -65535, 131072, 1 << 31, 1 << 32, 1<<32 + 1, 1<<32 + 65536, -1 << 31, -1 << 32,
	math.MaxInt, math.MinInt, math.MinInt + 1, math.MinInt + 65536,
}

// noID are numbers that are no ids.
var noID = []int{
	0, -1, -3, 1 << 31, 1<<31 + 1, 1<<32 - 1, 1 << 32, 1<<32 + 1, 1<<32 + 7, -1 << 31, -1<<31 + 1, -1 << 32, -1<<32 + 1,
	math.MaxInt, math.MinInt, math.MinInt + 1,
}

// noWindow are numbers that are no windows.
var noWindow = []int{
	leastWindow - 1, leastWindow - 2, mostWindow + 1, mostWindow + 2, 1 << 32, 1<<32 + 5, -1 << 32, -1<<32 + 5,
	math.MaxInt, math.MinInt, math.MinInt + 1,
}

// no is an id that no stream of these tests has.
const no = 1000

// made is a new sender.
func made(t *testing.T, cap int) *send.Sender {
	t.Helper()
	s, e := send.New(cap)
	if s == nil || e != api.OK {
		t.Fatalf("New(%d) is %v, %d", cap, s, e)
	}
	return s
}

// with is a new sender, with streams that have a window, of which each head was said,
// and went.
func with(t *testing.T, cap, window int, ids ...int) *send.Sender {
	t.Helper()
	s := made(t, cap)
	for _, id := range ids {
		opens(t, s, id, window, api.OK)
		says(t, s, id, nil, false, api.OK)
		sends(t, s, 0, 0, headers, whole, id)
	}
	return s
}

// opens tells whether Open answers just that.
func opens(t *testing.T, s *send.Sender, id, window int, want api.Errno) {
	t.Helper()
	if e := s.Open(id, window); e != want {
		t.Errorf("Open(%d, %d) is %d, not %d", id, window, e, want)
	}
}

// says tells whether Head answers just that.
func says(t *testing.T, s *send.Sender, id int, block []byte, last bool, want api.Errno) {
	t.Helper()
	if e := s.Head(id, block, last); e != want {
		t.Errorf("Head of %d, of %d bytes, %t, is %d, not %d", id, len(block), last, e, want)
	}
}

// waits tells whether Data answers just that.
func waits(t *testing.T, s *send.Sender, id int, b []byte, last bool, want api.Errno) {
	t.Helper()
	if e := s.Data(id, b, last); e != want {
		t.Errorf("Data of %d, of %d bytes, %t, is %d, not %d", id, len(b), last, e, want)
	}
}

// grows tells whether Grow answers just that.
func grows(t *testing.T, s *send.Sender, id, n int, can bool, want api.Errno) {
	t.Helper()
	if ok, e := s.Grow(id, n); ok != can || e != want {
		t.Errorf("Grow(%d, %d) is %t, %d, not %t, %d", id, n, ok, e, can, want)
	}
}

// shifts tells whether Shift answers just that.
func shifts(t *testing.T, s *send.Sender, by, want int) {
	t.Helper()
	if id := s.Shift(by); id != want {
		t.Errorf("Shift(%d) is %d, not %d", by, id, want)
	}
}

// drops tells whether Drop answers just that.
func drops(t *testing.T, s *send.Sender, id int, want api.Errno) {
	t.Helper()
	if e := s.Drop(id); e != want {
		t.Errorf("Drop(%d) is %d, not %d", id, e, want)
	}
}

// same tells whether two frames are one.
func same(f, g api.Frame) bool {
	return f.Kind == g.Kind && f.Flags == g.Flags && f.Stream == g.Stream && bytes.Equal(f.Payload, g.Payload)
}

// sends tells whether the next frame is just that.
func sends(t *testing.T, s *send.Sender, room, most int, kind api.Kind, flags, id int, b ...byte) {
	t.Helper()
	want := api.Frame{Kind: kind, Flags: flags, Stream: id, Payload: b}
	if f, ok := s.Next(room, most); !ok || !same(f, want) {
		t.Errorf("Next(%d, %d) is %v, %t, not %v", room, most, f, ok, want)
	}
}

// silent tells whether there is no next frame.
func silent(t *testing.T, s *send.Sender, room, most int) {
	t.Helper()
	if f, ok := s.Next(room, most); ok || f.Payload != nil || !same(f, api.Frame{}) {
		t.Errorf("Next(%d, %d) is %v, %t", room, most, f, ok)
	}
}

// has tells whether a sender has just these streams, and just so many bytes.
func has(t *testing.T, s *send.Sender, waiting, heads int, ids ...int) {
	t.Helper()
	if s.Waiting() != waiting || s.Heads() != heads || !slices.Equal(s.IDs(), ids) {
		t.Errorf("%d bytes wait, and %d of heads, of %v, not %d, %d, %v", s.Waiting(), s.Heads(), s.IDs(), waiting, heads, ids)
	}
}

// run is so many bytes, that rise from one on.
func run(from, count int) []byte {
	b := make([]byte, count)
	for i := range b {
		b[i] = byte(from + i)
	}
	return b
}

// P20.1: a new sender of each cap has no streams; just CAP bytes may wait.
func TestNew(t *testing.T) {
	for _, cap := range []int{0, 1, 2, 3, 255, 256, 16384, 16385, 65534, 65535, 65536} {
		s := made(t, cap)
		has(t, s, 0, 0)
		silent(t, s, plenty, plenty)
		opens(t, s, 1, 0, api.OK)
		says(t, s, 1, nil, false, api.OK)
		waits(t, s, 1, run(0, cap+1), false, api.ErrFull)
		waits(t, s, 1, run(0, cap), false, api.OK)
		has(t, s, cap, 0, 1)
		waits(t, s, 1, run(0, 1), false, api.ErrFull)
		waits(t, s, 1, nil, false, api.OK)
		has(t, s, cap, 0, 1)
	}
}

// P20.1: no sender has another cap.
func TestNewWrong(t *testing.T) {
	for _, n := range noCap {
		if s, e := send.New(n); s != nil || e != api.ErrArg {
			t.Errorf("New(%d) is %v, %d", n, s, e)
		}
	}
}

// P20.1: a stream comes: of any id, odd or even, at the edges too, with any window.
func TestOpen(t *testing.T) {
	s := made(t, 0)
	ids := []int{1, 2, 3, 4, 100, 65535, 65536, greatestID - 1, greatestID}
	windows := []int{leastWindow, leastWindow + 1, -1, 0, 1, 65535, 1 << 20, mostWindow - 1, mostWindow}
	for i, id := range ids {
		opens(t, s, id, windows[i], api.OK)
		has(t, s, 0, 0, ids[:i+1]...)
	}
	silent(t, s, plenty, plenty)
}

// P20.1: the window is the one that it was opened with.
func TestOpenWindow(t *testing.T) {
	for window := -3; window < 6; window++ {
		s := with(t, 9, window, 1)
		waits(t, s, 1, run(0, 9), false, api.OK)
		if window > 0 {
			sends(t, s, plenty, plenty, data, 0, 1, run(0, window)...)
		}
		silent(t, s, plenty, plenty)
	}
}

// P20.1: ErrArg, if the id, or the window, may not be, be the id there or not; nothing
// has come then.
func TestOpenWrong(t *testing.T) {
	s := made(t, 9)
	for _, id := range noID {
		for _, window := range append(slices.Clone(noWindow), 0, 5, mostWindow) {
			opens(t, s, id, window, api.ErrArg)
		}
	}
	for _, window := range noWindow {
		for _, id := range []int{1, 2, greatestID} {
			opens(t, s, id, window, api.ErrArg)
		}
	}
	has(t, s, 0, 0)
	opens(t, s, 1, 2, api.OK)
	for _, window := range noWindow {
		opens(t, s, 1, window, api.ErrArg)
	}
	has(t, s, 0, 0, 1)
}

// P20.1: ErrState, if it is there, with whatever window; it stays as it is.
func TestOpenTwice(t *testing.T) {
	s := made(t, 9)
	opens(t, s, 7, 2, api.OK)
	says(t, s, 7, []byte{5}, false, api.OK)
	waits(t, s, 7, []byte{1, 2, 3}, true, api.OK)
	for _, window := range []int{2, 0, 9, leastWindow, mostWindow} {
		opens(t, s, 7, window, api.ErrState)
		has(t, s, 3, 1, 7)
	}
	sends(t, s, 9, 9, headers, whole, 7, 5)
	opens(t, s, 7, 9, api.ErrState)
	sends(t, s, 9, 9, data, 0, 7, 1, 2)
	opens(t, s, 7, 9, api.ErrState)
	silent(t, s, 9, 9)
}

// P20.1: a head is said, and waits; of no bytes too, and of as many as may be.
func TestHead(t *testing.T) {
	for _, count := range []int{0, 1, 2, 255, 16383, greatestBlock} {
		for _, last := range []bool{false, true} {
			s := made(t, 0)
			opens(t, s, 1, leastWindow, api.OK)
			says(t, s, 1, run(3, count), last, api.OK)
			has(t, s, 0, count, 1)
			if last {
				sends(t, s, 0, 0, headers, whole|end, 1, run(3, count)...)
				has(t, s, 0, 0)
			} else {
				sends(t, s, 0, 0, headers, whole, 1, run(3, count)...)
				has(t, s, 0, 0, 1)
			}
			silent(t, s, plenty, plenty)
		}
	}
}

// P20.1: ErrNone, ErrState, ErrArg of a head, in this order; nothing is said then.
func TestHeadWrong(t *testing.T) {
	s := made(t, 9)
	opens(t, s, 3, 9, api.OK)
	long := run(0, greatestBlock+1)
	for _, last := range []bool{false, true} {
		for _, id := range append(slices.Clone(noID), 1, 2, 4, no) {
			says(t, s, id, nil, last, api.ErrNone)
			says(t, s, id, long, last, api.ErrNone)
		}
		says(t, s, 3, long, last, api.ErrArg)
		says(t, s, 3, run(0, 1<<17), last, api.ErrArg)
		has(t, s, 0, 0, 3)
		waits(t, s, 3, nil, false, api.ErrState)
	}
	silent(t, s, plenty, plenty)
	says(t, s, 3, []byte{1, 2}, false, api.OK)
	for _, last := range []bool{false, true} {
		says(t, s, 3, []byte{3}, last, api.ErrState)
		says(t, s, 3, long, last, api.ErrState)
		has(t, s, 0, 2, 3)
	}
	sends(t, s, 0, 0, headers, whole, 3, 1, 2)
	says(t, s, 3, nil, true, api.ErrState)
	says(t, s, 3, long, true, api.ErrState)
	silent(t, s, plenty, plenty)
}

// P20.1: bytes wait behind the others.
func TestData(t *testing.T) {
	s := with(t, 20, 100, 5)
	var b []byte
	for i := range 6 {
		waits(t, s, 5, run(10*i, i), false, api.OK)
		b = append(b, run(10*i, i)...)
		has(t, s, len(b), 0, 5)
	}
	sends(t, s, 2, 9, data, 0, 5, b[:2]...)
	waits(t, s, 5, run(70, 3), true, api.OK)
	b = append(b, run(70, 3)...)
	sends(t, s, 9, 4, data, 0, 5, b[2:6]...)
	has(t, s, len(b)-6, 0, 5)
	sends(t, s, plenty, plenty, data, end, 5, b[6:]...)
	has(t, s, 0, 0)
}

// P20.1: ErrNone, ErrState, ErrFull of bytes, in this order; none wait then, and the last
// is not said.
func TestDataWrong(t *testing.T) {
	s := made(t, 4)
	opens(t, s, 3, 9, api.OK)
	long := run(0, 5)
	for _, last := range []bool{false, true} {
		for _, id := range append(slices.Clone(noID), 1, 2, 4, no) {
			waits(t, s, id, nil, last, api.ErrNone)
			waits(t, s, id, long, last, api.ErrNone)
		}
		waits(t, s, 3, nil, last, api.ErrState)
		waits(t, s, 3, long, last, api.ErrState)
	}
	says(t, s, 3, nil, false, api.OK)
	waits(t, s, 3, long, true, api.ErrFull)
	waits(t, s, 3, []byte{1}, false, api.OK)
	waits(t, s, 3, long[:4], true, api.ErrFull)
	has(t, s, 1, 0, 3)
	sends(t, s, 9, 9, headers, whole, 3)
	sends(t, s, 9, 9, data, 0, 3, 1)
	silent(t, s, 9, 9)
	waits(t, s, 3, []byte{2, 3, 4, 5}, true, api.OK)
	for _, last := range []bool{false, true} {
		waits(t, s, 3, nil, last, api.ErrState)
		waits(t, s, 3, long, last, api.ErrState)
	}
	sends(t, s, 9, 3, data, 0, 3, 2, 3, 4)
	waits(t, s, 3, nil, false, api.ErrState)
	sends(t, s, 9, 9, data, end, 3, 5)
	waits(t, s, 3, nil, true, api.ErrNone)
}

// P20.1: behind a head that was its last no bytes wait, not even none.
func TestDataBehindLastHead(t *testing.T) {
	s := made(t, 4)
	opens(t, s, 1, 9, api.OK)
	says(t, s, 1, []byte{1}, true, api.OK)
	waits(t, s, 1, nil, false, api.ErrState)
	waits(t, s, 1, []byte{2}, true, api.ErrState)
	sends(t, s, 9, 9, headers, whole|end, 1, 1)
	waits(t, s, 1, nil, true, api.ErrNone)
}

// P20.1: CAP counts the bytes that wait of all streams together, no heads, and none that
// went, with their stream or without.
func TestDataFull(t *testing.T) {
	s := made(t, 10)
	for id := 1; id <= 4; id++ {
		opens(t, s, id, 100, api.OK)
		says(t, s, id, run(0, greatestBlock), false, api.OK)
	}
	waits(t, s, 4, run(0, 3), true, api.OK)
	waits(t, s, 1, run(0, 4), false, api.OK)
	waits(t, s, 2, run(0, 4), false, api.ErrFull)
	waits(t, s, 2, run(0, 3), false, api.OK)
	has(t, s, 10, 4*greatestBlock, 1, 2, 3, 4)
	for id := 1; id <= 3; id++ {
		waits(t, s, id, []byte{1}, true, api.ErrFull)
		waits(t, s, id, nil, false, api.OK)
	}
	sends(t, s, 0, 0, headers, whole, 1, run(0, greatestBlock)...)
	waits(t, s, 3, []byte{1}, false, api.ErrFull)
	sends(t, s, 2, 9, data, 0, 1, 0, 1)
	waits(t, s, 3, run(0, 3), false, api.ErrFull)
	waits(t, s, 3, run(0, 2), false, api.OK)
	drops(t, s, 2, api.OK)
	has(t, s, 7, 2*greatestBlock, 1, 3, 4)
	waits(t, s, 1, run(0, 4), false, api.ErrFull)
	waits(t, s, 1, run(0, 3), false, api.OK)
	has(t, s, 10, 2*greatestBlock, 1, 3, 4)
}

// P20.1: a window grows, from below 0 too, up to the most.
func TestGrow(t *testing.T) {
	s := with(t, 9, -4, 1, 2)
	waits(t, s, 1, run(0, 9), false, api.OK)
	for _, n := range []int{0, 3, 1} {
		grows(t, s, 1, n, true, api.OK)
		silent(t, s, plenty, plenty)
	}
	grows(t, s, 1, 1, true, api.OK)
	sends(t, s, plenty, plenty, data, 0, 1, 0)
	grows(t, s, 1, 2, true, api.OK)
	grows(t, s, 1, 1, true, api.OK)
	sends(t, s, plenty, plenty, data, 0, 1, 1, 2, 3)
	silent(t, s, plenty, plenty)
	grows(t, s, 2, mostWindow, true, api.OK)
	grows(t, s, 2, 5, false, api.OK)
	grows(t, s, 2, 4, true, api.OK)
	grows(t, s, 2, 1, false, api.OK)
	grows(t, s, 2, 0, true, api.OK)
	silent(t, s, plenty, plenty)
}

// P20.1: false, if a window can't grow so: it stays; ErrNone, if there is no such stream,
// whatever the number.
func TestGrowWrong(t *testing.T) {
	wrong := []int{-1, -2, leastWindow, mostWindow + 1, 1 << 32, 1<<32 + 1, math.MaxInt, math.MinInt}
	s := with(t, 9, 2, 3)
	waits(t, s, 3, run(0, 9), false, api.OK)
	for _, n := range append(slices.Clone(wrong), mostWindow, mostWindow-1) {
		grows(t, s, 3, n, false, api.OK)
	}
	for _, n := range append(wrong, 0, 1, mostWindow) {
		for _, id := range append(slices.Clone(noID), 1, 2, 4, no) {
			grows(t, s, id, n, false, api.ErrNone)
		}
	}
	sends(t, s, plenty, plenty, data, 0, 3, 0, 1)
	silent(t, s, plenty, plenty)
}

// P20.1: all windows are shifted, up and down, below 0 too.
func TestShift(t *testing.T) {
	s := with(t, 40, 2, 1, 2, 7)
	for _, id := range []int{1, 2, 7} {
		waits(t, s, id, run(0, 9), false, api.OK)
	}
	shifts(t, s, 3, 0)
	for _, id := range []int{1, 2, 7} {
		sends(t, s, plenty, plenty, data, 0, id, 0, 1, 2, 3, 4)
	}
	shifts(t, s, -5, 0)
	grows(t, s, 2, 6, true, api.OK)
	sends(t, s, plenty, plenty, data, 0, 2, 5)
	shifts(t, s, 5, 0)
	silent(t, s, plenty, 0)
	shifts(t, s, 1, 0)
	sends(t, s, plenty, plenty, data, 0, 1, 5)
	sends(t, s, plenty, plenty, data, 0, 2, 6, 7, 8)
	sends(t, s, plenty, plenty, data, 0, 7, 5)
	shifts(t, s, 0, 0)
	silent(t, s, plenty, plenty)
}

// P20.1: one whose head was not said is shifted like the others.
func TestShiftAll(t *testing.T) {
	s := made(t, 9)
	opens(t, s, 4, 0, api.OK)
	shifts(t, s, 3, 0)
	says(t, s, 4, nil, false, api.OK)
	waits(t, s, 4, run(0, 9), false, api.OK)
	shifts(t, s, -1, 0)
	sends(t, s, plenty, plenty, headers, whole, 4)
	sends(t, s, plenty, plenty, data, 0, 4, 0, 1)
	silent(t, s, plenty, plenty)
}

// P20.1: none is shifted, if one can't be; the least id of these is told.
func TestShiftWrong(t *testing.T) {
	s := with(t, 40, 1, 9, 3, 5, 7)
	grows(t, s, 5, mostWindow-2, true, api.OK)
	grows(t, s, 7, mostWindow-3, true, api.OK)
	shifts(t, s, 2, 5)
	shifts(t, s, 3, 5)
	grows(t, s, 3, mostWindow-3, true, api.OK)
	shifts(t, s, 3, 3)
	shifts(t, s, mostWindow, 3)
	shifts(t, s, -mostWindow, 0)
	shifts(t, s, -3, 9)
	shifts(t, s, -mostWindow, 3)
	shifts(t, s, mostWindow, 0)
	waits(t, s, 9, run(0, 9), false, api.OK)
	sends(t, s, plenty, plenty, data, 0, 9, 0)
	silent(t, s, plenty, plenty)
	for _, id := range []int{3, 5, 7} {
		shifts(t, s, 3, 3)
		grows(t, s, id, 3, false, api.OK)
	}
}

// P20.1: by numbers that no window is shifted by none is; but with no streams there is
// none that can't be.
func TestShiftByWrong(t *testing.T) {
	wrong := []int{leastWindow, leastWindow - 1, mostWindow + 1, 1 << 32, 1<<32 + 1, -1<<32 + 1, math.MaxInt, math.MinInt}
	s := with(t, 9, 0, 6, 4)
	none := made(t, 9)
	for _, by := range wrong {
		shifts(t, s, by, 4)
		shifts(t, none, by, 0)
	}
	for _, by := range []int{0, 1, -1, mostWindow, -mostWindow} {
		shifts(t, none, by, 0)
	}
	waits(t, s, 4, []byte{1}, false, api.OK)
	silent(t, s, plenty, plenty)
	grows(t, s, 4, 1, true, api.OK)
	sends(t, s, plenty, plenty, data, 0, 4, 1)
}

// P20.1: a stream goes, with its head and its bytes, and nothing of it is sent any more;
// the others stay.
func TestDrop(t *testing.T) {
	s := made(t, 20)
	for i, id := range []int{5, 1, 3} {
		opens(t, s, id, 9, api.OK)
		says(t, s, id, run(id, i+1), false, api.OK)
		waits(t, s, id, run(id, i+4), true, api.OK)
	}
	has(t, s, 15, 6, 1, 3, 5)
	drops(t, s, 3, api.OK)
	has(t, s, 9, 3, 1, 5)
	drops(t, s, 3, api.ErrNone)
	sends(t, s, 9, 9, headers, whole, 1, 1, 2)
	sends(t, s, 9, 9, data, end, 1, 1, 2, 3, 4, 5)
	drops(t, s, 1, api.ErrNone)
	sends(t, s, 9, 9, headers, whole, 5, 5)
	drops(t, s, 5, api.OK)
	has(t, s, 0, 0)
	silent(t, s, plenty, plenty)
}

// P20.1: ErrNone, if there is no such stream; the others stay.
func TestDropWrong(t *testing.T) {
	s := made(t, 9)
	opens(t, s, 3, 0, api.OK)
	for _, id := range append(slices.Clone(noID), 1, 2, 4, no) {
		drops(t, s, id, api.ErrNone)
	}
	has(t, s, 0, 0, 3)
}

// P20.1: an id that is gone, dropped or with its last frame, may come again: nothing is
// left of what it was.
func TestOpenAgain(t *testing.T) {
	s := made(t, 9)
	for i := range 4 {
		opens(t, s, 2, 5, api.OK)
		silent(t, s, plenty, plenty)
		waits(t, s, 2, nil, false, api.ErrState)
		says(t, s, 2, []byte{byte(i)}, false, api.OK)
		waits(t, s, 2, run(20*i, 7), true, api.OK)
		has(t, s, 7, 1, 2)
		sends(t, s, 9, 9, headers, whole, 2, byte(i))
		sends(t, s, 9, 9, data, 0, 2, run(20*i, 5)...)
		silent(t, s, 9, 9)
		if i%2 == 0 {
			drops(t, s, 2, api.OK)
		} else {
			grows(t, s, 2, 9, true, api.OK)
			sends(t, s, 9, 9, data, end, 2, run(20*i+5, 2)...)
		}
		has(t, s, 0, 0)
	}
}

// P20.1: a head goes ahead of all bytes, whatever room there is; with flag 1, just if the
// last was said, and no bytes wait.
func TestNextHead(t *testing.T) {
	for _, room := range []int{plenty, 1, 0, -1, leastWindow, math.MinInt} {
		for _, window := range []int{leastWindow, -1, 0, 1, mostWindow} {
			s := made(t, 9)
			for id := 1; id <= 5; id++ {
				opens(t, s, id, window, api.OK)
				says(t, s, id, run(id, 2), id == 1, api.OK)
			}
			waits(t, s, 2, nil, true, api.OK)
			waits(t, s, 3, []byte{7}, true, api.OK)
			waits(t, s, 4, []byte{8}, false, api.OK)
			sends(t, s, room, plenty, headers, whole|end, 1, 1, 2)
			has(t, s, 2, 8, 2, 3, 4, 5)
			sends(t, s, plenty, room, headers, whole|end, 2, 2, 3)
			has(t, s, 2, 6, 3, 4, 5)
			sends(t, s, room, room, headers, whole, 3, 3, 4)
			drops(t, s, 3, api.OK)
			sends(t, s, room, room, headers, whole, 4, 4, 5)
			drops(t, s, 4, api.OK)
			sends(t, s, room, room, headers, whole, 5, 5, 6)
			has(t, s, 0, 0, 5)
			silent(t, s, room, room)
		}
	}
}

// goes tells whether the next frame has, of 4 bytes that wait, as many as there is room
// for.
func goes(t *testing.T, room, most, window int, last bool) {
	t.Helper()
	s := with(t, 4, window, 1)
	waits(t, s, 1, run(5, 4), last, api.OK)
	n := min(4, room, most, window)
	switch {
	case n < 1:
		silent(t, s, room, most)
		has(t, s, 4, 0, 1)
		return
	case n == 4 && last:
		sends(t, s, room, most, data, end, 1, 5, 6, 7, 8)
		has(t, s, 0, 0)
		return
	}
	sends(t, s, room, most, data, 0, 1, run(5, n)...)
	has(t, s, 4-n, 0, 1)
	// What is left of the window is told by how much more it can grow.
	grows(t, s, 1, mostWindow-window+n, true, api.OK)
	grows(t, s, 1, 1, false, api.OK)
}

// P20.1: as many bytes go as ROOM, MOST and the window have room for, whichever is the
// least, and no more than wait; the window is so much less.
func TestNextData(t *testing.T) {
	sizes := []int{math.MinInt, leastWindow, -1, 0, 1, 2, 3, 4, 5, 6, mostWindow, plenty}
	for _, room := range sizes {
		for _, most := range sizes {
			for _, window := range sizes[1 : len(sizes)-1] {
				goes(t, room, most, window, false)
				goes(t, room, most, window, true)
			}
		}
	}
}

// P20.1: the end without bytes goes, if the last is said behind all of them, whatever
// room there is, and whatever the window.
func TestNextEnd(t *testing.T) {
	for _, room := range []int{plenty, 1, 0, -1, math.MinInt} {
		for _, window := range []int{leastWindow, -1, 0} {
			s := with(t, 9, window, 1, 2)
			silent(t, s, plenty, plenty)
			waits(t, s, 2, nil, true, api.OK)
			sends(t, s, room, plenty, data, end, 2)
			has(t, s, 0, 0, 1)
			waits(t, s, 1, nil, false, api.OK)
			silent(t, s, plenty, plenty)
			waits(t, s, 1, nil, true, api.OK)
			has(t, s, 0, 0, 1)
			sends(t, s, plenty, room, data, end, 1)
			has(t, s, 0, 0)
		}
	}
	s := with(t, 9, 3, 1)
	waits(t, s, 1, []byte{1, 2, 3}, false, api.OK)
	sends(t, s, 9, 9, data, 0, 1, 1, 2, 3)
	silent(t, s, 9, 9)
	waits(t, s, 1, nil, true, api.OK)
	sends(t, s, 0, 0, data, end, 1)
	silent(t, s, 9, 9)
}

// P20.1: with bytes that wait, and no room for them, no end goes.
func TestNextNoEnd(t *testing.T) {
	s := with(t, 9, 2, 1)
	waits(t, s, 1, []byte{1, 2}, false, api.OK)
	waits(t, s, 1, []byte{3}, false, api.OK)
	waits(t, s, 1, nil, true, api.OK)
	silent(t, s, 0, 9)
	silent(t, s, 9, 0)
	sends(t, s, 9, 9, data, 0, 1, 1, 2)
	silent(t, s, 9, 9)
	has(t, s, 1, 0, 1)
	grows(t, s, 1, 1, true, api.OK)
	silent(t, s, -1, 9)
	sends(t, s, 9, 9, data, end, 1, 3)
}

// P20.1: the least id goes first that has a frame, a head or not; those that have none are
// passed over.
func TestNextLeast(t *testing.T) {
	s := with(t, 20, 2, 8, 6, 4)
	for _, id := range []int{9, 2, 5, 7} {
		opens(t, s, id, 0, api.OK)
	}
	says(t, s, 9, []byte{9}, true, api.OK)
	says(t, s, 5, []byte{5}, false, api.OK)
	waits(t, s, 6, []byte{6, 6, 6}, true, api.OK)
	waits(t, s, 8, nil, true, api.OK)
	waits(t, s, 4, []byte{4, 4}, false, api.OK)
	waits(t, s, 5, []byte{5}, true, api.OK)
	sends(t, s, 9, 1, data, 0, 4, 4)
	sends(t, s, 0, 0, headers, whole, 5, 5)
	sends(t, s, 9, 9, data, 0, 4, 4)
	sends(t, s, 9, 9, data, 0, 6, 6, 6)
	says(t, s, 7, nil, false, api.OK)
	sends(t, s, 9, 9, headers, whole, 7)
	sends(t, s, 9, 9, data, end, 8)
	sends(t, s, 9, 9, headers, whole|end, 9, 9)
	silent(t, s, 9, 9)
	grows(t, s, 6, 1, true, api.OK)
	sends(t, s, 9, 9, data, end, 6, 6)
	says(t, s, 2, nil, true, api.OK)
	sends(t, s, 9, 9, headers, whole|end, 2)
	has(t, s, 1, 0, 4, 5, 7)
}

// P20.1: ids rise, in whatever order they came, and whichever are gone.
func TestIDs(t *testing.T) {
	r := rand.New(rand.NewSource(20))
	for range 200 {
		s := made(t, 0)
		there := map[int]bool{}
		for range 60 {
			id := 1 + r.Intn(40)
			switch {
			case r.Intn(3) == 0 && there[id]:
				drops(t, s, id, api.OK)
				delete(there, id)
			case there[id]:
				opens(t, s, id, 0, api.ErrState)
			default:
				opens(t, s, id, 0, api.OK)
				there[id] = true
			}
			has(t, s, 0, 0, slices.Sorted(maps.Keys(there))...)
		}
	}
}

// P20.1: on a nil one.
func TestNil(t *testing.T) {
	var s *send.Sender
	for _, n := range append(slices.Clone(noID), 1, 3) {
		opens(t, s, n, 1, api.ErrArg)
		says(t, s, n, nil, true, api.ErrArg)
		says(t, s, n, run(0, greatestBlock+1), false, api.ErrArg)
		waits(t, s, n, []byte{1}, true, api.ErrArg)
		grows(t, s, n, 1, false, api.ErrArg)
		shifts(t, s, n, 0)
		drops(t, s, n, api.ErrArg)
		silent(t, s, n, n)
		silent(t, s, plenty, plenty)
		has(t, s, 0, 0)
	}
}

// told is a stream, by the document's words: all that was said of it is kept for good.
type told struct {
	window             int
	head, said         []byte
	headSaid, headWent bool
	last               bool
	went               int
}

// model is the document's words, told again.
type model struct {
	cap     int
	streams map[int]*told
}

// newModel is one without streams.
func newModel(cap int) *model { return &model{cap, map[int]*told{}} }

func (m *model) ids() []int { return slices.Sorted(maps.Keys(m.streams)) }

func (m *model) waiting() int {
	sum := 0
	for _, x := range m.streams {
		sum += len(x.said) - x.went
	}
	return sum
}

func (m *model) heads() int {
	sum := 0
	for _, x := range m.streams {
		if x.headSaid && !x.headWent {
			sum += len(x.head)
		}
	}
	return sum
}

func (m *model) open(id, window int) api.Errno {
	if id < 1 || id > greatestID || window < leastWindow || window > mostWindow {
		return api.ErrArg
	}
	if m.streams[id] != nil {
		return api.ErrState
	}
	m.streams[id] = &told{window: window}
	return api.OK
}

func (m *model) head(id int, block []byte, last bool) api.Errno {
	x := m.streams[id]
	if x == nil {
		return api.ErrNone
	}
	if x.headSaid {
		return api.ErrState
	}
	if len(block) > greatestBlock {
		return api.ErrArg
	}
	x.head, x.headSaid, x.last = block, true, last
	return api.OK
}

func (m *model) data(id int, b []byte, last bool) api.Errno {
	x := m.streams[id]
	if x == nil {
		return api.ErrNone
	}
	if !x.headSaid || x.last {
		return api.ErrState
	}
	if m.waiting()+len(b) > m.cap {
		return api.ErrFull
	}
	x.said, x.last = slices.Concat(x.said, b), last
	return api.OK
}

func (m *model) grow(id, n int) (bool, api.Errno) {
	x := m.streams[id]
	if x == nil {
		return false, api.ErrNone
	}
	if n < 0 || n > mostWindow || x.window > mostWindow-n {
		return false, api.OK
	}
	x.window += n
	return true, api.OK
}

func (m *model) shift(by int) int {
	for _, id := range m.ids() {
		w := m.streams[id].window
		if by < -mostWindow || by > mostWindow || w+by < leastWindow || w+by > mostWindow {
			return id
		}
	}
	for _, x := range m.streams {
		x.window += by
	}
	return 0
}

func (m *model) drop(id int) api.Errno {
	if m.streams[id] == nil {
		return api.ErrNone
	}
	delete(m.streams, id)
	return api.OK
}

func (m *model) next(room, most int) (api.Frame, bool) {
	for _, id := range m.ids() {
		x := m.streams[id]
		left := len(x.said) - x.went
		count := min(room, most, x.window, left)
		f := api.Frame{Stream: id}
		switch {
		case x.headSaid && !x.headWent:
			f.Kind, f.Flags, f.Payload = headers, whole, x.head
			x.headWent = true
		case left > 0 && count >= 1:
			f.Payload = x.said[x.went : x.went+count]
			x.went += count
			x.window -= count
			left -= count
		case left == 0 && x.last:
		default:
			continue
		}
		if left == 0 && x.last {
			f.Flags |= end
			delete(m.streams, id)
		}
		return f, true
	}
	return api.Frame{}, false
}

// The calls that change something.
const (
	open = iota
	head
	body
	grow
	shift
	drop
	next
)

// step is a call, with what it is given: the numbers that it takes, or fewer.
type step struct {
	call, a, b int
	bytes      []byte
	last       bool
}

// do lets a step happen to a sender, which ought to answer as it is told.
func (x step) do(t *testing.T, s *send.Sender, m *model) {
	t.Helper()
	switch x.call {
	case open:
		opens(t, s, x.a, x.b, m.open(x.a, x.b))
	case head:
		says(t, s, x.a, x.bytes, x.last, m.head(x.a, x.bytes, x.last))
	case body:
		waits(t, s, x.a, x.bytes, x.last, m.data(x.a, x.bytes, x.last))
	case grow:
		ok, e := m.grow(x.a, x.b)
		grows(t, s, x.a, x.b, ok, e)
	case shift:
		shifts(t, s, x.b, m.shift(x.b))
	case drop:
		drops(t, s, x.a, m.drop(x.a))
	case next:
		want, there := m.next(x.a, x.b)
		if f, ok := s.Next(x.a, x.b); ok != there || !same(f, want) {
			t.Errorf("Next(%d, %d) is %v, %t, not %v, %t", x.a, x.b, f, ok, want, there)
		}
	}
	has(t, s, m.waiting(), m.heads(), m.ids()...)
	if s.Waiting() > m.cap {
		t.Errorf("%d bytes wait, the cap is %d", s.Waiting(), m.cap)
	}
}

// replay lets steps happen to a new sender of a cap.
func replay(t *testing.T, cap int, steps []step) {
	t.Helper()
	s, m := made(t, cap), newModel(cap)
	for _, x := range steps {
		x.do(t, s, m)
	}
	if t.Failed() {
		t.Fatalf("cap %d, steps %v", cap, steps)
	}
}

// ways lets all ways of so many more steps happen.
func ways(t *testing.T, cap int, done, all []step, left int) {
	if left == 0 {
		replay(t, cap, done)
		return
	}
	for _, x := range all {
		ways(t, cap, append(done, x), all, left-1)
	}
}

// P20.1, P20.2: all ways of 3 steps, and of 4 in one stream, and in two, whose heads were
// said.
func TestTold(t *testing.T) {
	all := []step{
		{call: open, a: 1, b: 1}, {call: open, a: 2, b: 3},
		{call: head, a: 1, bytes: []byte{1}}, {call: head, a: 1, last: true}, {call: head, a: 2, bytes: []byte{2, 3}},
		{call: body, a: 1, bytes: []byte{4}}, {call: body, a: 1, bytes: []byte{5, 6}, last: true}, {call: body, a: 1, last: true},
		{call: body, a: 2, bytes: []byte{7}, last: true}, {call: grow, a: 1, b: 1}, {call: shift, b: -1},
		{call: drop, a: 1}, {call: next, a: 9, b: 9}, {call: next, a: 1, b: 2}, {call: next},
	}
	for cap := range 4 {
		ways(t, cap, nil, all, 3)
		ways(t, cap, []step{all[0], all[2]}, all[5:], 4)
		ways(t, cap, []step{all[1], all[0], all[4], all[2]}, all[5:], 4)
	}
}

// some is a step, of a few ids, at times with what may not be.
func some(r *rand.Rand, cap int) step {
	x := step{a: 1 + r.Intn(6), last: r.Intn(6) == 0}
	x.call = []int{open, open, head, head, body, body, body, body, grow, grow, shift, drop, next, next, next, next, next}[r.Intn(17)]
	odd := r.Intn(40) == 0
	if odd {
		x.a = noID[r.Intn(len(noID))]
	}
	switch x.call {
	case open:
		x.b = r.Intn(30) - 10
		if r.Intn(20) == 0 {
			x.b = append([]int{leastWindow, mostWindow, mostWindow - 20}, noWindow...)[r.Intn(len(noWindow)+3)]
		}
	case head:
		x.bytes = run(r.Intn(256), r.Intn(5))
		if odd {
			x.bytes = run(r.Intn(256), greatestBlock+r.Intn(2))
		}
	case body:
		x.bytes = run(r.Intn(256), r.Intn(2+cap/2))
	case grow:
		x.b = r.Intn(20) - 1
	case shift:
		x.b = r.Intn(21) - 10
		if odd {
			x.b = noWindow[r.Intn(len(noWindow))]
		}
	case next:
		x.a, x.b = r.Intn(20)-1, r.Intn(20)-1
		if odd {
			x.a, x.b = x.a*1<<58, x.b*1<<59
		}
	}
	return x
}

// P20.1, P20.2: whatever is asked, all is as the document's words, told again, have it.
func TestToldLong(t *testing.T) {
	r := rand.New(rand.NewSource(201))
	for range 2000 {
		cap := []int{0, 1, 5, 20, 60}[r.Intn(5)]
		s, m := made(t, cap), newModel(cap)
		for range 150 {
			some(r, cap).do(t, s, m)
		}
		if t.Failed() {
			t.FailNow()
		}
	}
}

// sent is what was said, and what was sent, of a stream.
type sent struct {
	head, bytes, wentHead, went []byte
	window                      int
	last, headWent, ended       bool
}

// may tells whether a frame may go of a stream, with such room.
func (x *sent) may(t *testing.T, f api.Frame, room, most int) {
	t.Helper()
	switch {
	case x.ended:
		t.Errorf("%v goes behind the end", f)
	case f.Kind == headers && !x.headWent:
		x.headWent, x.wentHead = true, f.Payload
	case f.Kind == data && x.headWent:
		if n := len(f.Payload); n > 0 && (n > room || n > most || n > x.window) {
			t.Errorf("%d bytes go, of %d, %d, %d", n, room, most, x.window)
		}
		x.window -= len(f.Payload)
		x.went = append(x.went, f.Payload...)
	default:
		t.Errorf("%v goes, the head went: %t", f, x.headWent)
	}
	if !bytes.HasPrefix(x.bytes, x.went) {
		t.Errorf("%v went, of %v", x.went, x.bytes)
	}
	x.ended = f.Flags&end != 0
	if x.ended != (x.last && len(x.went) == len(x.bytes)) {
		t.Errorf("the end goes: %t, behind %d bytes of %d, %t", x.ended, len(x.went), len(x.bytes), x.last)
	}
}

// take lets the next frame go, if there is one.
func take(t *testing.T, s *send.Sender, all map[int]*sent, room, most int) bool {
	t.Helper()
	f, ok := s.Next(room, most)
	if !ok {
		return false
	}
	if all[f.Stream] == nil {
		t.Fatalf("%v goes of no stream", f)
	}
	all[f.Stream].may(t, f, room, most)
	return true
}

// speak lets something be said of a stream, if it may be.
func speak(r *rand.Rand, s *send.Sender, id int, x *sent) {
	b, last, n := run(r.Intn(256), r.Intn(30)), r.Intn(8) == 0, r.Intn(25)
	switch r.Intn(6) {
	case 0:
		if s.Head(id, b, last) == api.OK {
			x.head, x.last = b, last
		}
	case 1:
		if ok, _ := s.Grow(id, n); ok {
			x.window += n
		}
	default:
		if s.Data(id, b, last) == api.OK {
			x.bytes, x.last = append(x.bytes, b...), last
		}
	}
}

// P20.2: what is sent of each of many streams is its head, and then its bytes, in order,
// never more than is allowed; the last frame alone has flag 1; at last all went.
func TestWhole(t *testing.T) {
	r := rand.New(rand.NewSource(202))
	for range 300 {
		cap := 40 + r.Intn(200)
		s, all := made(t, cap), map[int]*sent{}
		for id := 1 + r.Intn(3); len(all) < 12; id += 1 + r.Intn(1<<20) {
			all[id] = &sent{window: r.Intn(60) - 30}
			opens(t, s, id, all[id].window, api.OK)
		}
		ids := s.IDs()
		for range 500 {
			id := ids[r.Intn(len(ids))]
			speak(r, s, id, all[id])
			if by := r.Intn(20) - 10; r.Intn(20) == 0 && s.Shift(by) == 0 {
				// Of those that are gone too: nothing goes of them any more.
				for _, x := range all {
					x.window += by
				}
			}
			take(t, s, all, r.Intn(30)-2, r.Intn(30)-2)
			if s.Waiting() > cap {
				t.Fatalf("%d bytes wait, the cap is %d", s.Waiting(), cap)
			}
		}
		finish(t, s, all)
		if t.Failed() {
			t.FailNow()
		}
	}
}

// finish lets all be said, and go.
func finish(t *testing.T, s *send.Sender, all map[int]*sent) {
	t.Helper()
	for _, id := range s.IDs() {
		s.Head(id, nil, false)
		s.Grow(id, 100000)
		all[id].window += 100000
		if s.Data(id, nil, true) == api.OK {
			all[id].last = true
		}
	}
	for take(t, s, all, 7, 11) {
	}
	has(t, s, 0, 0)
	for id, x := range all {
		if !x.ended || !bytes.Equal(x.head, x.wentHead) || !bytes.Equal(x.bytes, x.went) {
			t.Errorf("of %d went %v, %v, ended %t, not %v, %v", id, x.wentHead, x.went, x.ended, x.head, x.bytes)
		}
	}
}

// P20.2: as many bytes as may wait go whole, in frames of each size.
func TestGreatest(t *testing.T) {
	b := make([]byte, greatestCap)
	rand.New(rand.NewSource(3)).Read(b)
	for _, most := range []int{1, 2, 3, 100, 16383, 16384, 16385, 65535, 65536, 65537} {
		s := with(t, greatestCap, mostWindow, 3)
		waits(t, s, 3, b, true, api.OK)
		var went []byte
		for len(went) < len(b) {
			f, ok := s.Next(plenty, most)
			ends := len(went)+most >= len(b)
			if !ok || len(f.Payload) != min(most, len(b)-len(went)) || (f.Flags == end) != ends {
				t.Fatalf("behind %d bytes %d go, flags %d, %t", len(went), len(f.Payload), f.Flags, ok)
			}
			went = append(went, f.Payload...)
		}
		if !bytes.Equal(went, b) {
			t.Errorf("in frames of %d other bytes went", most)
		}
		has(t, s, 0, 0)
	}
}

// number is one of any size.
func number(r *rand.Rand) int {
	n := int(r.Uint64() >> r.Intn(64))
	if r.Intn(3) == 0 {
		return -n
	}
	return n
}

// P1: every call ends, and none panics, at all arguments, on every sender that was given,
// a nil one too.
func TestNoPanic(t *testing.T) {
	r := rand.New(rand.NewSource(1))
	for range 1000 {
		cap := number(r)
		s, e := send.New(cap)
		if (s == nil) != (cap < 0 || cap > greatestCap) || (s == nil) != (e == api.ErrArg) {
			t.Fatalf("New(%d) is %v, %d", cap, s, e)
		}
		for range 200 {
			id := number(r)
			if r.Intn(4) > 0 {
				id = r.Intn(5)
			}
			switch r.Intn(8) {
			case 0:
				s.Open(id, number(r))
			case 1:
				s.Head(id, make([]byte, r.Intn(20)), r.Intn(5) == 0)
			case 2, 3:
				s.Data(id, make([]byte, r.Intn(20)), r.Intn(5) == 0)
			case 4:
				s.Grow(id, number(r))
			case 5:
				s.Shift(number(r))
			case 6:
				s.Next(number(r), number(r))
			case 7:
				s.Drop(id)
			}
			if n := s.Waiting(); n < 0 || n > max(cap, 0) || s.Heads() < 0 {
				t.Fatalf("%d bytes wait, the cap is %d", n, cap)
			}
		}
	}
}

// P2: the same calls are answered alike, whatever happens to other senders; asking what
// there is changes nothing.
func TestSameAgain(t *testing.T) {
	r := rand.New(rand.NewSource(2))
	for range 200 {
		x, y, other := made(t, 30), made(t, 30), made(t, 30)
		m, again, others := newModel(30), newModel(30), newModel(30)
		for range 100 {
			a := some(r, 30)
			a.do(t, x, m)
			some(r, 30).do(t, other, others)
			a.do(t, y, again)
			for range r.Intn(3) {
				has(t, y, x.Waiting(), x.Heads(), x.IDs()...)
			}
		}
	}
}

// P2: what is handed in is neither written into nor kept; what lies behind its length is
// neither read nor written.
func TestHandedIn(t *testing.T) {
	for count := 1; count < 100; count++ {
		s := made(t, 200)
		memory := run(1, 100)
		opens(t, s, 1, 300, api.OK)
		says(t, s, 1, memory[:count], false, api.OK)
		says(t, s, 1, memory[:count], false, api.ErrState)
		waits(t, s, 1, memory[:count], false, api.OK)
		waits(t, s, 1, memory[:count], true, api.OK)
		for i := range memory {
			memory[i] ^= 0xff
		}
		want := run(1, count)
		sends(t, s, 0, 0, headers, whole, 1, want...)
		sends(t, s, plenty, count, data, 0, 1, want...)
		sends(t, s, plenty, plenty, data, end, 1, want...)
		for i := range memory {
			if memory[i] != byte(i+1)^0xff {
				t.Fatalf("byte %d became %d", i, memory[i])
			}
		}
	}
}

// spoil writes into bytes, or ids, and behind them.
func spoil[T byte | int](l []T) {
	l = l[:cap(l)]
	for i := range l {
		l[i] = 0xee
	}
}

// P2: what goes is new memory: whoever writes into it, or behind it, changes nothing that
// goes later; and what comes later changes nothing of it.
func TestNewMemory(t *testing.T) {
	for _, most := range []int{1, 2, 3, 7} {
		s := made(t, 60)
		block, b := run(7, 9), run(100, 30)
		opens(t, s, 1, 100, api.OK)
		opens(t, s, 2, 100, api.OK)
		says(t, s, 1, block, false, api.OK)
		says(t, s, 2, block, false, api.OK)
		waits(t, s, 1, b, false, api.OK)
		waits(t, s, 2, b, false, api.OK)
		f, _ := s.Next(0, 0)
		spoil(f.Payload)
		var went, gone []byte
		for len(went) < len(b) {
			f, ok := s.Next(plenty, most)
			if !ok || f.Stream != 1 {
				t.Fatalf("%v, %t", f, ok)
			}
			went = append(went, f.Payload...)
			waits(t, s, 2, nil, false, api.OK)
			spoil(f.Payload)
			gone = f.Payload
		}
		if !bytes.Equal(went, run(100, 30)) {
			t.Errorf("%v went", went)
		}
		sends(t, s, 0, 0, headers, whole, 2, run(7, 9)...)
		sends(t, s, 99, 99, data, 0, 2, run(100, 30)...)
		waits(t, s, 1, run(1, 30), true, api.OK)
		if slices.ContainsFunc(gone, func(x byte) bool { return x != 0xee }) {
			t.Errorf("what went became %v", gone)
		}
		sends(t, s, 99, 99, data, end, 1, run(1, 30)...)
		if !bytes.Equal(block, run(7, 9)) || !bytes.Equal(b, run(100, 30)) {
			t.Error("what was handed in became another")
		}
	}
}

// P2: ids that were told are new memory.
func TestNewIDs(t *testing.T) {
	s := with(t, 9, 9, 3, 1, 2)
	spoil(s.IDs())
	has(t, s, 0, 0, 1, 2, 3)
	l := s.IDs()
	drops(t, s, 1, api.OK)
	opens(t, s, 7, 0, api.OK)
	if !slices.Equal(l, []int{1, 2, 3}) {
		t.Errorf("ids became %v", l)
	}
}

// inUse is how much memory is held, now that nothing else is.
func inUse() int {
	var m runtime.MemStats
	runtime.GC()
	runtime.ReadMemStats(&m)
	return int(m.HeapAlloc)
}

// used is how much memory was ever asked for.
func used() int {
	var m runtime.MemStats
	runtime.ReadMemStats(&m)
	return int(m.TotalAlloc)
}

// lean tells whether a sender is but little more memory than there was ahead.
func lean(t *testing.T, ahead int, s *send.Sender) {
	t.Helper()
	if held := inUse() - ahead; held > 1<<20 {
		t.Errorf("%d bytes are held", held)
	}
	runtime.KeepAlive(s)
}

// What went is not held on to, be there a rest or none.
func TestWentIsLean(t *testing.T) {
	for rest := range 3 {
		ahead := inUse()
		s := made(t, greatestCap)
		for id := 1; id <= 200; id++ {
			count := greatestCap - s.Waiting()
			opens(t, s, id, count-rest, api.OK)
			says(t, s, id, make([]byte, greatestBlock), false, api.OK)
			s.Next(0, 0)
			waits(t, s, id, make([]byte, count), false, api.OK)
			s.Next(plenty, plenty)
		}
		has(t, s, 200*rest, 0, s.IDs()...)
		lean(t, ahead, s)
	}
}

// A stream that is gone is not held on to, be it dropped, or be it with its last frame.
func TestGoneIsLean(t *testing.T) {
	ahead := inUse()
	s := made(t, greatestCap)
	for i := range 400 {
		id := 1 + i%7
		opens(t, s, id, mostWindow, api.OK)
		says(t, s, id, make([]byte, greatestBlock), false, api.OK)
		waits(t, s, id, make([]byte, greatestCap), true, api.OK)
		if i%2 == 0 {
			drops(t, s, id, api.OK)
			continue
		}
		s.Next(0, 0)
		s.Next(plenty, plenty)
		has(t, s, 0, 0)
	}
	lean(t, ahead, s)
}

// Nor are many that were there at once, in whatever order they are dropped.
func TestDroppedIsLean(t *testing.T) {
	r := rand.New(rand.NewSource(4))
	for way := range 3 {
		ahead := inUse()
		s := made(t, 0)
		ids := r.Perm(300)
		for _, id := range ids {
			opens(t, s, id+1, 0, api.OK)
			says(t, s, id+1, make([]byte, greatestBlock), false, api.OK)
		}
		switch way {
		case 0:
			slices.Sort(ids)
		case 1:
			slices.SortFunc(ids, func(x, y int) int { return y - x })
		}
		for _, id := range ids {
			drops(t, s, id+1, api.OK)
		}
		has(t, s, 0, 0)
		lean(t, ahead, s)
	}
}

// Of much memory no more is held than the bytes that wait.
func TestCameIsLean(t *testing.T) {
	ahead := inUse()
	s := made(t, 20)
	for id := 1; id <= 5; id++ {
		opens(t, s, id, 0, api.OK)
		says(t, s, id, make([]byte, 1<<22)[:id], false, api.OK)
		waits(t, s, id, make([]byte, 1<<22)[:id], false, api.OK)
	}
	has(t, s, 15, 15, 1, 2, 3, 4, 5)
	lean(t, ahead, s)
}

// However bytes go, few are moved: not all that wait, whenever one goes.
func TestFewAreMoved(t *testing.T) {
	s := with(t, greatestCap, mostWindow, 1)
	waits(t, s, 1, make([]byte, greatestCap), false, api.OK)
	ahead := used()
	for range greatestCap {
		s.Next(plenty, 1)
	}
	has(t, s, 0, 0, 1)
	if n := used() - ahead; n > 1<<24 {
		t.Errorf("%d bytes were asked for", n)
	}
}
