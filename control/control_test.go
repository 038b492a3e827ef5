package control_test

import (
	"bytes"
	"math"
	"math/rand"
	"runtime"
	"slices"
	"testing"

	"gantlet/api"
	"gantlet/control"
)

// wrong are numbers that are no rooms: some about the edges, some that would be rooms,
// if they were cut to fewer bits.
var wrong = []int{
	0, -1, 65, -2, 66, -64, -63, 100, 127, 128, 255, 256, 257, 320, 1 << 16, 1<<16 + 1, 1 << 31, 1<<31 + 64, 1 << 32,
	1<<32 + 1, 1<<32 + 64, -1 << 31, -1 << 32, -1<<32 + 7, math.MaxInt, math.MaxInt - 1, math.MinInt, math.MinInt + 1,
	math.MinInt + 64,
}

// odd are frames that may not be, by their numbers; a queue takes them as they are.
var odd = []api.Frame{
	{Kind: -1}, {Kind: 256}, {Kind: math.MaxInt}, {Kind: math.MinInt}, {Flags: -1}, {Flags: 256},
	{Flags: math.MaxInt}, {Stream: -1}, {Stream: 1 << 31}, {Stream: math.MinInt},
}

// marked is a frame that a mark tells from others; it has so many bytes.
func marked(mark, count int) api.Frame {
	return api.Frame{
		Kind: api.Kind(mark % 10), Flags: mark % 256, Stream: mark, Payload: bytes.Repeat([]byte{byte(mark + 1)}, count),
	}
}

// same tells whether two frames are one.
func same(f, g api.Frame) bool {
	return f.Kind == g.Kind && f.Flags == g.Flags && f.Stream == g.Stream && bytes.Equal(f.Payload, g.Payload)
}

// total is how many bytes frames' payloads have.
func total(l []api.Frame) int {
	sum := 0
	for _, f := range l {
		sum += len(f.Payload)
	}
	return sum
}

// made is a new queue.
func made(t *testing.T, room int) *control.Queue {
	t.Helper()
	q, e := control.New(room)
	if q == nil || e != api.OK {
		t.Fatalf("New(%d) is %v, %d", room, q, e)
	}
	return q
}

// pushes tells whether Push answers just that.
func pushes(t *testing.T, q *control.Queue, f api.Frame, want api.Errno) {
	t.Helper()
	if e := q.Push(f); e != want {
		t.Errorf("Push of %d: %d, not %d", f.Stream, e, want)
	}
}

// lasts tells whether Last answers just that.
func lasts(t *testing.T, q *control.Queue, f api.Frame, want api.Errno) {
	t.Helper()
	if e := q.Last(f); e != want {
		t.Errorf("Last of %d: %d, not %d", f.Stream, e, want)
	}
}

// pops tells whether just these frames go, and then no more.
func pops(t *testing.T, q *control.Queue, want ...api.Frame) {
	t.Helper()
	for i, w := range want {
		if f, ok := q.Pop(); !ok || !same(f, w) {
			t.Errorf("Pop %d: %v, %t, not %v", i, f, ok, w)
		}
	}
	if f, ok := q.Pop(); ok || !same(f, api.Frame{}) {
		t.Errorf("Pop behind all: %v, %t", f, ok)
	}
}

// has tells whether there are just so many frames, of so many bytes, and whether the
// last one has come just if that is asked for.
func has(t *testing.T, q *control.Queue, frames, size int, ended bool) {
	t.Helper()
	if q.Len() != frames || q.Bytes() != size || q.Ended() != ended {
		t.Errorf("%d frames, %d bytes, ended %t, not %d, %d, %t", q.Len(), q.Bytes(), q.Ended(), frames, size, ended)
	}
}

// P19.1: a new queue of each room that may be has no frames; there is room for just so
// many, and then for a last one.
func TestNew(t *testing.T) {
	for room := 1; room <= 64; room++ {
		q := made(t, room)
		has(t, q, 0, 0, false)
		pops(t, q)
		var l []api.Frame
		for i := range room {
			l = append(l, marked(i, i%3))
			pushes(t, q, l[i], api.OK)
			has(t, q, i+1, total(l), false)
		}
		for range 3 {
			pushes(t, q, marked(99, 1), api.ErrFull)
			has(t, q, room, total(l), false)
		}
		l = append(l, marked(77, 5))
		lasts(t, q, l[room], api.OK)
		has(t, q, room+1, total(l), true)
		pops(t, q, l...)
		has(t, q, 0, 0, true)
	}
}

// P19.1: no queue has another room.
func TestNewWrong(t *testing.T) {
	for _, n := range wrong {
		if q, e := control.New(n); q != nil || e != api.ErrArg {
			t.Errorf("New(%d) is %v, %d", n, q, e)
		}
	}
}

// P19.1: ErrFull, if there are ROOM, however many came, and went, ahead; nothing has
// come then; what goes makes room again, for just one.
func TestFull(t *testing.T) {
	for _, room := range []int{1, 2, 3, 63, 64} {
		q := made(t, room)
		var l []api.Frame
		for mark := range 3 * room {
			for i := range 3 {
				f := marked(mark, i)
				if len(l) < room {
					pushes(t, q, f, api.OK)
					l = append(l, f)
				} else {
					pushes(t, q, f, api.ErrFull)
				}
				has(t, q, len(l), total(l), false)
			}
			if len(l) < room {
				continue
			}
			if f, ok := q.Pop(); !ok || !same(f, l[0]) {
				t.Fatalf("Pop: %v, %t, not %v", f, ok, l[0])
			}
			l = l[1:]
			has(t, q, len(l), total(l), false)
		}
		pops(t, q, l...)
	}
}

// P19.1: a last one comes whether there is room or not; there is at most one; behind it
// nothing comes, even if it is gone, and even if the queue is full.
func TestLast(t *testing.T) {
	for room := 1; room <= 5; room++ {
		for count := range room + 1 {
			q := made(t, room)
			var l []api.Frame
			for i := range count {
				l = append(l, marked(i, 2))
				pushes(t, q, l[i], api.OK)
			}
			l = append(l, marked(50, 7))
			lasts(t, q, l[count], api.OK)
			for i := range l {
				has(t, q, len(l)-i, total(l[i:]), true)
				pushes(t, q, marked(60, 3), api.ErrOver)
				lasts(t, q, marked(61, 3), api.ErrOver)
				has(t, q, len(l)-i, total(l[i:]), true)
				if f, ok := q.Pop(); !ok || !same(f, l[i]) {
					t.Errorf("Pop: %v, %t, not %v", f, ok, l[i])
				}
			}
			for range 2 {
				has(t, q, 0, 0, true)
				pushes(t, q, marked(60, 3), api.ErrOver)
				lasts(t, q, marked(61, 3), api.ErrOver)
				pops(t, q)
			}
		}
	}
}

// P19.1: false, if there is none; that changes nothing, and more may come.
func TestPopNone(t *testing.T) {
	q := made(t, 1)
	for mark := range 5 {
		pops(t, q)
		has(t, q, 0, 0, false)
		pushes(t, q, marked(mark, 4), api.OK)
		pops(t, q, marked(mark, 4))
	}
}

// P19.1: bytes are those of the payloads alone, of all the frames that are there, the
// first and the last one too.
func TestBytes(t *testing.T) {
	counts := []int{5, 0, 1, 8, 24, 0, 256, 16384}
	for at := range counts {
		q := made(t, len(counts))
		sum := 0
		for i, n := range append(slices.Clone(counts[at:]), counts[:at]...) {
			pushes(t, q, marked(i, n), api.OK)
			sum += n
			has(t, q, i+1, sum, false)
		}
		lasts(t, q, marked(9, 17), api.OK)
		sum += 17
		for left := 9; left > 0; left-- {
			has(t, q, left, sum, true)
			f, _ := q.Pop()
			sum -= len(f.Payload)
		}
		has(t, q, 0, 0, true)
	}
}

// P19.1: whatever frames come, they go as they came: a queue looks at nothing but how
// many bytes they have.
func TestWhatever(t *testing.T) {
	long := api.Frame{Kind: 255, Flags: 255, Stream: api.MaxID, Payload: bytes.Repeat([]byte{3}, 1<<24)}
	l := append(slices.Clone(odd), api.Frame{}, api.Frame{Payload: []byte{}}, long)
	q := made(t, len(l))
	for _, f := range l {
		pushes(t, q, f, api.OK)
	}
	has(t, q, len(l), 1<<24, false)
	pops(t, q, l...)
	for _, f := range l {
		q := made(t, 1)
		lasts(t, q, f, api.OK)
		pops(t, q, f)
	}
}

// P19.1: on a nil one.
func TestNil(t *testing.T) {
	var q *control.Queue
	for _, f := range append(slices.Clone(odd), api.Frame{}, marked(1, 2)) {
		pushes(t, q, f, api.ErrArg)
		lasts(t, q, f, api.ErrArg)
		pushes(t, q, f, api.ErrArg)
		has(t, q, 0, 0, false)
		pops(t, q)
	}
}

// model is the document's words told again: all that came is kept for good.
type model struct {
	room, went int
	came       []api.Frame
	ended      bool
}

func (m *model) push(f api.Frame) api.Errno {
	switch {
	case m.ended:
		return api.ErrOver
	case len(m.came)-m.went >= m.room:
		return api.ErrFull
	}
	m.came = append(m.came, f)
	return api.OK
}

func (m *model) last(f api.Frame) api.Errno {
	if m.ended {
		return api.ErrOver
	}
	m.came, m.ended = append(m.came, f), true
	return api.OK
}

func (m *model) pop() (api.Frame, bool) {
	if m.went == len(m.came) {
		return api.Frame{}, false
	}
	m.went++
	return m.came[m.went-1], true
}

// agrees tells whether a queue is as the words told again have it, and whether there are
// no more than ROOM, and one.
func agrees(t *testing.T, q *control.Queue, m *model) {
	t.Helper()
	there := m.came[m.went:]
	has(t, q, len(there), total(there), m.ended)
	if q.Len() > m.room+1 || q.Len() > m.room && !q.Ended() {
		t.Errorf("%d frames, ended %t, room %d", q.Len(), q.Ended(), m.room)
	}
}

// The kinds of steps.
const (
	push = iota
	last
	pop
)

// do lets a step happen to a queue, which ought to answer as it is told.
func do(t *testing.T, q *control.Queue, m *model, step int, f api.Frame) {
	t.Helper()
	switch step {
	case push:
		pushes(t, q, f, m.push(f))
	case last:
		lasts(t, q, f, m.last(f))
	case pop:
		want, there := m.pop()
		if got, ok := q.Pop(); ok != there || !same(got, want) {
			t.Errorf("Pop: %v, %t, not %v, %t", got, ok, want, there)
		}
	}
	agrees(t, q, m)
}

// P19.2: what goes is what came, in that order: all ways of 8 steps, and then all go.
func TestInOrder(t *testing.T) {
	for room := 1; room <= 4; room++ {
		for way := range 3 * 3 * 3 * 3 * 3 * 3 * 3 * 3 {
			q, m := made(t, room), &model{room: room}
			for mark := range 8 {
				do(t, q, m, way%3, marked(mark, mark%4))
				way /= 3
			}
			pops(t, q, m.came[m.went:]...)
			if t.Failed() {
				t.Fatalf("room %d", room)
			}
		}
	}
}

// P19.2: so it is on long ways of whatever steps, in queues of whatever room.
func TestInOrderLong(t *testing.T) {
	r := rand.New(rand.NewSource(19))
	for range 500 {
		room := 1 + r.Intn(64)
		q, m := made(t, room), &model{room: room}
		// Few pops: it is full most of the time; many: it is without frames.
		few := 2 + r.Intn(5)
		for mark := range 400 {
			step := push
			switch {
			case r.Intn(few) == 0:
				step = pop
			case r.Intn(300) == 0:
				step = last
			}
			do(t, q, m, step, marked(mark, r.Intn(30)))
		}
		pops(t, q, m.came[m.went:]...)
		if t.Failed() {
			t.FailNow()
		}
	}
}

// some is a frame, with whatever numbers.
func some(r *rand.Rand) api.Frame {
	n := func() int { return int(r.Uint64() >> r.Intn(64)) }
	return api.Frame{Kind: api.Kind(n()), Flags: n(), Stream: n(), Payload: make([]byte, r.Intn(20))}
}

// P1: every call ends, and none panics, at all arguments, on every queue that was given,
// a nil one too.
func TestNoPanic(t *testing.T) {
	r := rand.New(rand.NewSource(1))
	for range 3000 {
		room := int(r.Uint64()>>r.Intn(64)) * (r.Intn(3) - 1)
		if r.Intn(2) == 0 {
			room = r.Intn(67) - 1
		}
		q, e := control.New(room)
		if (q == nil) != (room < 1 || room > 64) || (q == nil) != (e == api.ErrArg) {
			t.Fatalf("New(%d) is %v, %d", room, q, e)
		}
		for range 100 {
			switch r.Intn(12) {
			case 0:
				q.Last(some(r))
			case 1, 2, 3:
				q.Pop()
			default:
				q.Push(some(r))
			}
			if q.Len() < 0 || q.Len() > 65 || q.Bytes() < 0 {
				t.Fatalf("%d frames, %d bytes", q.Len(), q.Bytes())
			}
		}
	}
}

// P2: the same calls are answered alike, whatever happens to other queues; asking how
// many there are changes nothing.
func TestSameAgain(t *testing.T) {
	r := rand.New(rand.NewSource(2))
	for range 200 {
		room := 1 + r.Intn(6)
		x, y, other := made(t, room), made(t, room), made(t, room)
		m, again := &model{room: room}, &model{room: room}
		for mark := range 60 {
			step, f := r.Intn(3), marked(mark, r.Intn(9))
			if step == last && r.Intn(20) > 0 {
				step = push
			}
			do(t, x, m, step, f)
			other.Push(some(r))
			if r.Intn(2) == 0 {
				other.Pop()
			}
			do(t, y, again, step, f)
			for range r.Intn(3) {
				has(t, y, x.Len(), x.Bytes(), x.Ended())
			}
		}
	}
}

// P2: what is handed in is neither written into nor kept; what lies behind its length is
// neither read nor written.
func TestHandedIn(t *testing.T) {
	for count := range 100 {
		q := made(t, 1)
		memory := make([]byte, 100)
		for i := range memory {
			memory[i] = byte(i + 1)
		}
		ahead := slices.Clone(memory)
		f := api.Frame{Kind: 6, Payload: memory[:count]}
		pushes(t, q, f, api.OK)
		pushes(t, q, f, api.ErrFull)
		lasts(t, q, f, api.OK)
		lasts(t, q, f, api.ErrOver)
		for i := range memory {
			memory[i] ^= 0xff
		}
		has(t, q, 2, 2*count, true)
		want := api.Frame{Kind: 6, Payload: ahead[:count]}
		pops(t, q, want, want)
		for i := range memory {
			if memory[i] != ahead[i]^0xff {
				t.Fatalf("byte %d became %d", i, memory[i])
			}
		}
	}
}

// P2: what goes is new memory: whoever writes into it, or behind it, changes nothing that
// goes later; and what comes later changes nothing of it.
func TestNewMemory(t *testing.T) {
	q := made(t, 4)
	one := marked(7, 10)
	for range 3 {
		pushes(t, q, one, api.OK)
	}
	var gone [][]byte
	for range 100 {
		pushes(t, q, one, api.OK)
		f, ok := q.Pop()
		if !ok || !same(f, one) {
			t.Fatalf("Pop: %v, %t", f, ok)
		}
		whole := f.Payload[:cap(f.Payload)]
		for i := range whole {
			whole[i] = byte(len(gone) + 100)
		}
		gone = append(gone, f.Payload)
	}
	if !same(one, marked(7, 10)) {
		t.Errorf("what was handed in became %v", one)
	}
	for i, b := range gone {
		if !bytes.Equal(b, bytes.Repeat([]byte{byte(i + 100)}, 10)) {
			t.Errorf("what went became %v", b)
		}
	}
	pops(t, q, one, one, one)
}

// inUse is how much memory is held, now that nothing else is.
func inUse() int {
	var m runtime.MemStats
	runtime.GC()
	runtime.ReadMemStats(&m)
	return int(m.HeapAlloc)
}

// lean tells whether a queue, and whatever else is held, is but little more memory than
// there was ahead.
func lean(t *testing.T, ahead int, q *control.Queue) {
	t.Helper()
	if held := inUse() - ahead; held > 1<<20 {
		t.Errorf("%d bytes are held", held)
	}
	runtime.KeepAlive(q)
}

// What went is not held on to, be there others or none.
func TestWentIsLean(t *testing.T) {
	for others := range 4 {
		ahead := inUse()
		q := made(t, 64)
		for range 5 {
			pushes(t, q, marked(1, 1<<21), api.OK)
		}
		for i := range others {
			pushes(t, q, marked(i, 3), api.OK)
		}
		for range 5 {
			q.Pop()
		}
		has(t, q, others, 3*others, false)
		lean(t, ahead, q)
	}
}

// Of much memory no more is held than a payload's bytes, be there any or none; nor does
// it matter how much came, and went.
func TestCameIsLean(t *testing.T) {
	ahead := inUse()
	q := made(t, 6)
	for count := range 3 {
		pushes(t, q, api.Frame{Payload: make([]byte, 1<<22)[:count]}, api.OK)
		pushes(t, q, api.Frame{Payload: make([]byte, 1<<22)[1<<22-count:]}, api.OK)
	}
	lean(t, ahead, q)
	for range 100000 {
		q.Pop()
		pushes(t, q, marked(1, 24), api.OK)
	}
	has(t, q, 6, 6*24, false)
	lean(t, ahead, q)
}
