package outlet_test

import (
	"bytes"
	"encoding/binary"
	"math"
	"math/rand"
	"runtime"
	"slices"
	"testing"

	"gantlet/api"
	"gantlet/frame"
	"gantlet/outlet"
)

// right tells whether a frame may be, as the document has it.
func right(f api.Frame) bool {
	return f.Kind >= 0 && f.Kind <= 255 && f.Flags >= 0 && f.Flags <= 255 &&
		f.Stream >= 0 && f.Stream <= 1<<31-1 && len(f.Payload) <= 1<<24-1
}

// odd are frames that may not be, by their numbers.
func odd() []api.Frame {
	return []api.Frame{
		{Kind: -1}, {Kind: 256}, {Kind: math.MaxInt}, {Kind: math.MinInt},
		{Flags: -1}, {Flags: 256}, {Flags: math.MaxInt}, {Flags: math.MinInt},
		{Stream: -1}, {Stream: 1 << 31}, {Stream: 1 << 32}, {Stream: math.MaxInt}, {Stream: math.MinInt},
	}
}

// wrong are frames that may not be; the last one has too many bytes.
func wrong() []api.Frame { return append(odd(), api.Frame{Payload: make([]byte, 1<<24)}) }

// written are a frame's bytes, by the document's words.
func written(f api.Frame) []byte {
	n := len(f.Payload)
	b := []byte{byte(n >> 16), byte(n >> 8), byte(n), byte(f.Kind), byte(f.Flags)}
	return append(binary.BigEndian.AppendUint32(b, uint32(f.Stream)), f.Payload...)
}

// sized is a frame of so many bytes, 9 or more.
func sized(count int) api.Frame {
	return api.Frame{Kind: api.Ping, Flags: count % 200, Stream: count, Payload: bytes.Repeat([]byte{byte(count)}, count-9)}
}

// pushed is an outlet that frames of such sizes came to, and their bytes.
func pushed(t *testing.T, counts ...int) (*outlet.Outlet, []byte) {
	t.Helper()
	x, all := outlet.New(), []byte{}
	for _, count := range counts {
		f := sized(count)
		push(t, x, f)
		all = append(all, written(f)...)
	}
	has(t, x, len(all))
	return x, all
}

// push lets a frame that may be come.
func push(t *testing.T, x *outlet.Outlet, f api.Frame) {
	t.Helper()
	if e := x.Push(f); e != api.OK {
		t.Fatalf("Push: %d", e)
	}
}

// has tells whether just so many bytes wait.
func has(t *testing.T, x *outlet.Outlet, count int) {
	t.Helper()
	if n := x.Len(); n != count {
		t.Errorf("Len %d, not %d", n, count)
	}
}

// drains tells whether just these bytes go, if so many are asked for.
func drains(t *testing.T, x *outlet.Outlet, n int, want []byte) {
	t.Helper()
	if b := x.Drain(n); !bytes.Equal(b, want) {
		t.Errorf("Drain of %d: %d bytes, not the %d ones", n, len(b), len(want))
	}
}

// fills tells whether so many frames of a list are pushed.
func fills(t *testing.T, x *outlet.Outlet, n int, list []api.Frame, want int) {
	t.Helper()
	if count := x.Fill(n, list); count != want {
		t.Errorf("Fill of %d, %d frames: %d, not %d", n, len(list), count, want)
	}
}

// model is the document's words told again: all bytes are kept for good.
type model struct {
	all  []byte
	went int
}

func (m *model) count() int { return len(m.all) - m.went }

func (m *model) push(f api.Frame) api.Errno {
	if !right(f) {
		return api.ErrArg
	}
	m.all = append(m.all, written(f)...)
	return api.OK
}

func (m *model) drain(n int) []byte {
	first := m.went
	for m.went-first < n && m.went < len(m.all) {
		m.went++
	}
	return m.all[first:m.went]
}

func (m *model) fill(n int, list []api.Frame) int {
	for i, f := range list {
		if m.count() >= n || m.push(f) != api.OK {
			return i
		}
	}
	return len(list)
}

// some is a frame, at times one that may not be.
func some(r *rand.Rand) api.Frame {
	if r.Intn(12) == 0 {
		return odd()[r.Intn(len(odd()))]
	}
	length := []int{0, 0, 1, 8, r.Intn(20), r.Intn(300), r.Intn(3000)}[r.Intn(7)]
	b := make([]byte, length)
	r.Read(b)
	return api.Frame{Kind: api.Kind(r.Intn(256)), Flags: r.Intn(256), Stream: r.Intn(1 << 31), Payload: b}
}

// list is one of frames.
func list(r *rand.Rand) []api.Frame {
	var l []api.Frame
	for range r.Intn(8) {
		l = append(l, some(r))
	}
	return l
}

// number is how many bytes may be asked for.
func number(r *rand.Rand) int {
	return []int{0, 1, -1, 2, 9, r.Intn(20), r.Intn(300), r.Intn(5000), r.Intn(50000), math.MaxInt, math.MinInt}[r.Intn(11)]
}

// step asks one thing of an outlet, and of its model.
func step(t *testing.T, r *rand.Rand, x *outlet.Outlet, m *model) {
	t.Helper()
	switch n := number(r); r.Intn(4) {
	case 0:
		f := some(r)
		if e, want := x.Push(f), m.push(f); e != want {
			t.Fatalf("Push: %d, not %d", e, want)
		}
	case 1:
		l := list(r)
		if count, want := x.Fill(n, l), m.fill(n, l); count != want {
			t.Fatalf("Fill of %d: %d, not %d", n, count, want)
		}
	default:
		if b, want := x.Drain(n), m.drain(n); !bytes.Equal(b, want) {
			t.Fatalf("Drain of %d: %d bytes, not the %d ones", n, len(b), len(want))
		}
	}
	if x.Len() != m.count() {
		t.Fatalf("Len %d, not %d", x.Len(), m.count())
	}
}

// P14.1: a new one has no bytes; what comes to one, comes to no other.
func TestNew(t *testing.T) {
	x, y := outlet.New(), outlet.New()
	if x == nil || y == nil {
		t.Fatal("none")
	}
	for _, n := range []int{1, 100, 0, math.MaxInt} {
		has(t, x, 0)
		drains(t, x, n, nil)
	}
	push(t, x, sized(20))
	has(t, y, 0)
	drains(t, y, 100, nil)
	has(t, outlet.New(), 0)
	has(t, x, 20)
}

// P14.1: a frame's bytes come behind the others.
func TestPush(t *testing.T) {
	x, all := outlet.New(), []byte{}
	for _, kind := range []api.Kind{0, 1, 6, 9, 10, 128, 255} {
		for _, flags := range []int{0, 1, 77, 255} {
			for _, stream := range []int{0, 1, 2, 256, 1<<31 - 1} {
				for _, length := range []int{0, 1, 8, 255, 256, 257} {
					f := api.Frame{Kind: kind, Flags: flags, Stream: stream, Payload: bytes.Repeat([]byte{byte(stream)}, length)}
					push(t, x, f)
					all = append(all, written(f)...)
					has(t, x, len(all))
				}
			}
		}
	}
	drains(t, x, len(all), all)
	has(t, x, 0)
}

// P14.1: behind bytes that wait, some of which went, and behind none.
func TestPushBehind(t *testing.T) {
	for went := range 31 {
		x, all := pushed(t, 10, 20)
		drains(t, x, went, all[:went])
		push(t, x, sized(11))
		has(t, x, 41-went)
		drains(t, x, 100, append(all[went:], written(sized(11))...))
		push(t, x, api.Frame{})
		drains(t, x, 100, make([]byte, 9))
	}
}

// P14.1: ErrArg, if a frame may not be; nothing has come then.
func TestPushWrong(t *testing.T) {
	x, all := pushed(t, 10, 20)
	for _, f := range wrong() {
		if e := x.Push(f); e != api.ErrArg {
			t.Errorf("Push of %d %d %d, %d bytes: %d", f.Kind, f.Flags, f.Stream, len(f.Payload), e)
		}
		has(t, x, 30)
	}
	push(t, x, sized(12))
	drains(t, x, 100, append(all, written(sized(12))...))
	if e := x.Push(api.Frame{Kind: 256}); e != api.ErrArg || x.Len() != 0 {
		t.Errorf("Push: %d, Len %d", e, x.Len())
	}
}

// P14.1: the greatest frame that may be.
func TestGreatest(t *testing.T) {
	f := api.Frame{Kind: 255, Flags: 255, Stream: 1<<31 - 1, Payload: bytes.Repeat([]byte{7}, 1<<24-1)}
	x := outlet.New()
	push(t, x, f)
	fills(t, x, 1<<24+9, []api.Frame{f, f}, 1)
	has(t, x, 2*(1<<24+8))
	drains(t, x, 1<<24+8, written(f))
	drains(t, x, 9, written(f)[:9])
	drains(t, x, 1<<30, f.Payload)
	has(t, x, 0)
}

// P14.1: the first n bytes go, or as many as there are; none, if n is below 1.
func TestDrain(t *testing.T) {
	for n := range 45 {
		x, all := pushed(t, 10, 9, 20)
		for _, below := range []int{0, -1, -2, -39, math.MinInt, math.MinInt + 1} {
			drains(t, x, below, nil)
			has(t, x, 39)
		}
		went := min(n, 39)
		drains(t, x, n, all[:went])
		has(t, x, 39-went)
		drains(t, x, 0, nil)
		drains(t, x, -1, nil)
		drains(t, x, 1, all[went:min(went+1, 39)])
		drains(t, x, 38, all[min(went+1, 39):])
		has(t, x, 0)
		drains(t, x, 1, nil)
	}
	for _, n := range []int{39, 40, 1 << 31, 1 << 62, math.MaxInt} {
		x, all := pushed(t, 10, 9, 20)
		drains(t, x, n, all)
		drains(t, x, n, nil)
		has(t, x, 0)
		y, _ := pushed(t, 10, 9, 20)
		y.Drain(1)
		drains(t, y, n, all[1:])
	}
}

// P14.1: while fewer than n bytes wait, the next frame is pushed.
func TestFill(t *testing.T) {
	l := []api.Frame{sized(10), sized(9), sized(20)}
	all := slices.Concat(written(l[0]), written(l[1]), written(l[2]))
	ends := []int{0, 10, 19, 39}
	for n := -3; n < 60; n++ {
		want := 0
		for want < 3 && ends[want] < n {
			want++
		}
		x := outlet.New()
		fills(t, x, n, l, want)
		has(t, x, ends[want])
		fills(t, x, n, l[:0], 0)
		fills(t, x, ends[want], l, 0)
		drains(t, x, 100, all[:ends[want]])
	}
	for _, n := range []int{40, 1 << 31, math.MaxInt} {
		x := outlet.New()
		fills(t, x, n, l, 3)
		fills(t, x, n, nil, 0)
		drains(t, x, n, all)
	}
	for _, n := range []int{0, -1, math.MinInt} {
		x := outlet.New()
		fills(t, x, n, l, 0)
		has(t, x, 0)
	}
}

// P14.1: the bytes that wait ahead count, those that went do not.
func TestFillBehind(t *testing.T) {
	for went := range 31 {
		for n := range 60 {
			x, all := pushed(t, 10, 20)
			x.Drain(went)
			want := 0
			for want < 4 && 30-went+want*9 < n {
				want++
			}
			fills(t, x, n, []api.Frame{{}, {}, {}, {}}, want)
			has(t, x, 30-went+want*9)
			drains(t, x, 100, append(all[went:], make([]byte, want*9)...))
		}
	}
}

// P14.1: up to a frame that may not be: neither that one nor one behind it is pushed.
func TestFillWrong(t *testing.T) {
	for _, f := range wrong() {
		for at := range 4 {
			l := slices.Insert([]api.Frame{sized(10), sized(11), sized(12)}, at, f)
			x, all := pushed(t, 13)
			fills(t, x, 1000, l, at)
			for _, g := range l[:at] {
				all = append(all, written(g)...)
			}
			has(t, x, len(all))
			fills(t, x, 1000, l[at:], 0)
			fills(t, x, len(all), l, 0)
			fills(t, x, len(all)+1, l[at+1:], min(1, 3-at))
			drains(t, x, len(all), all)
		}
	}
	// Behind enough of them it is not asked for.
	x := outlet.New()
	fills(t, x, 10, []api.Frame{{}, {}, {Kind: 256}}, 2)
	fills(t, x, 18, []api.Frame{{Kind: 256}}, 0)
	has(t, x, 18)
}

// P14.1: on a nil one.
func TestNil(t *testing.T) {
	var x *outlet.Outlet
	for _, n := range []int{-1, 0, 1, 9, 100, math.MaxInt, math.MinInt} {
		drains(t, x, n, nil)
		for _, l := range [][]api.Frame{nil, {{}}, {{}, {Kind: 256}}, {{Kind: 256}}} {
			fills(t, x, n, l, 0)
		}
		has(t, x, 0)
	}
	for _, f := range append(wrong(), api.Frame{}, sized(20)) {
		if e := x.Push(f); e != api.ErrArg {
			t.Errorf("Push: %d", e)
		}
	}
}

// P14.2: cut in three, anywhere, and byte by byte, what is drained is all bytes.
func TestCutAnywhere(t *testing.T) {
	_, all := pushed(t, 9, 12, 30, 9)
	for i := range len(all) + 1 {
		for j := i; j <= len(all); j++ {
			x, _ := pushed(t, 9, 12, 30, 9)
			drains(t, x, i, all[:i])
			has(t, x, len(all)-i)
			drains(t, x, j-i, all[i:j])
			drains(t, x, len(all)+1, all[j:])
			has(t, x, 0)
		}
	}
	x, _ := pushed(t, 9, 12, 30, 9)
	for i := range all {
		has(t, x, len(all)-i)
		drains(t, x, 1, all[i:i+1])
	}
	has(t, x, 0)
}

// P14.2: whenever frames are pushed, and however bytes are cut, what is drained is the
// bytes of all those frames, in that order, and at last all of them.
func TestWhole(t *testing.T) {
	r := rand.New(rand.NewSource(14))
	for range 500 {
		x := outlet.New()
		var l []api.Frame
		var got []byte
		for range r.Intn(30) {
			n := number(r)
			switch r.Intn(3) {
			case 0:
				if f := some(r); x.Push(f) == api.OK {
					l = append(l, f)
				}
			case 1:
				more := list(r)
				l = append(l, more[:x.Fill(n, more)]...)
			default:
				got = append(got, x.Drain(n)...)
			}
		}
		n := []int{1, 9, 1000, math.MaxInt}[r.Intn(4)]
		for x.Len() > 0 {
			got = append(got, x.Drain(n)...)
		}
		again, count, e := frame.All(got, api.MaxFrame)
		if !slices.EqualFunc(again, l, frame.Same) || count != len(got) || e != api.OK {
			t.Fatalf("%d frames of %d, %d", len(again), len(l), e)
		}
	}
}

// P14.1, P14.2: whatever is asked, all is as the document's words, told again, have it.
func TestTold(t *testing.T) {
	r := rand.New(rand.NewSource(141))
	for range 1000 {
		x, m := outlet.New(), &model{}
		for range r.Intn(40) {
			step(t, r, x, m)
		}
		drains(t, x, m.count(), m.drain(m.count()))
		has(t, x, 0)
	}
}

// P1: every call ends, and none panics, at all arguments.
func TestNoPanic(t *testing.T) {
	r := rand.New(rand.NewSource(1))
	for i := range 2000 {
		x := []*outlet.Outlet{nil, {}, outlet.New()}[i%3]
		for range r.Intn(12) {
			f := api.Frame{Kind: api.Kind(r.Uint64() >> r.Intn(64)), Flags: int(r.Uint64() >> r.Intn(64)), Stream: int(r.Uint64() >> r.Intn(64)), Payload: make([]byte, r.Intn(100))}
			n := int(r.Uint64() >> r.Intn(64))
			ahead := x.Len()
			e := x.Push(f)
			if (e == api.OK) != (x != nil && right(f)) || e != api.OK && (e != api.ErrArg || x.Len() != ahead) {
				t.Fatalf("Push of %v: %d", f, e)
			}
			if count := x.Fill(n, append(list(r), f)); count < 0 || count > 8 {
				t.Fatalf("Fill of %d: %d", n, count)
			}
			if b := x.Drain(n); len(b) > max(n, 0) {
				t.Fatalf("Drain of %d: %d bytes", n, len(b))
			}
			if x.Len() < 0 {
				t.Fatalf("Len %d", x.Len())
			}
		}
	}
}

// P2: the same calls are answered alike, whatever comes to other outlets.
func TestSameAgain(t *testing.T) {
	r := rand.New(rand.NewSource(2))
	for seed := range int64(300) {
		x, y, other := outlet.New(), outlet.New(), outlet.New()
		m, again := &model{}, &model{}
		one, two := rand.New(rand.NewSource(seed)), rand.New(rand.NewSource(seed))
		for range r.Intn(30) {
			step(t, one, x, m)
			other.Push(some(r))
			other.Drain(number(r))
			step(t, two, y, again)
			for range 3 {
				has(t, x, y.Len())
			}
		}
		if !bytes.Equal(m.all, again.all) {
			t.Fatal("the calls differ")
		}
		b := x.Drain(math.MaxInt)
		drains(t, y, math.MaxInt, b)
	}
}

// P2: what is handed in is neither written into nor kept; what lies behind its length
// is neither read nor written.
func TestHandedIn(t *testing.T) {
	r := rand.New(rand.NewSource(22))
	for range 300 {
		x, m := outlet.New(), &model{}
		for range r.Intn(10) {
			memory := make([]byte, 100)
			r.Read(memory)
			ahead, length := slices.Clone(memory), r.Intn(100)
			l := []api.Frame{{Kind: 1, Payload: memory[:length]}, {Kind: 2}, {Kind: 3, Payload: memory[:length/2]}}
			push(t, x, l[0])
			m.push(l[0])
			fills(t, x, 1000, l[:2], m.fill(1000, l[:2]))
			if !bytes.Equal(memory, ahead) || l[0].Kind != 1 || l[1].Kind != 2 || l[2].Kind != 3 || len(l[0].Payload) != length || l[1].Payload != nil {
				t.Fatalf("%v became %v", ahead, memory)
			}
			for i := range memory {
				memory[i] ^= 0xff
			}
			clear(l)
			n := r.Intn(150)
			drains(t, x, n, m.drain(n))
		}
		drains(t, x, m.count(), m.drain(m.count()))
	}
}

// P2: what is drained is new memory: whoever writes into it, or behind it, changes
// nothing that goes later; and what comes later changes nothing of it.
func TestNewMemory(t *testing.T) {
	r := rand.New(rand.NewSource(23))
	for range 300 {
		x, m := outlet.New(), &model{}
		var parts, wants [][]byte
		for range r.Intn(30) {
			f := some(r)
			if x.Push(f) != m.push(f) {
				t.Fatal("Push")
			}
			n := number(r)
			part, want := x.Drain(n), slices.Clone(m.drain(n))
			if r.Intn(2) == 0 {
				whole := part[:cap(part)]
				for i := range whole {
					whole[i] ^= 0xff
				}
				for i := range want {
					want[i] ^= 0xff
				}
			}
			parts, wants = append(parts, part), append(wants, want)
		}
		drains(t, x, m.count(), m.drain(m.count()))
		if !slices.EqualFunc(parts, wants, bytes.Equal) {
			t.Fatal("what was drained became something else")
		}
	}
}

// inUse is how much memory is held, now that nothing else is.
func inUse() int {
	var m runtime.MemStats
	runtime.GC()
	runtime.ReadMemStats(&m)
	return int(m.HeapAlloc)
}

// used is how much memory was ever asked for.
func used() int {
	var m runtime.MemStats
	runtime.ReadMemStats(&m)
	return int(m.TotalAlloc)
}

// lean tells whether an outlet, and whatever else is held, is but little more memory
// than there was ahead.
func lean(t *testing.T, ahead int, x *outlet.Outlet) {
	t.Helper()
	if held := inUse() - ahead; held > 1<<21 {
		t.Errorf("%d bytes are held", held)
	}
	runtime.KeepAlive(x)
}

// long is a frame of 8 MiB and 9 bytes.
func long() api.Frame { return api.Frame{Payload: make([]byte, 1<<23)} }

// What went is not held on to, be there a rest or none.
func TestWentIsLean(t *testing.T) {
	for _, rest := range []int{0, 1, 8, 100} {
		ahead := inUse()
		x := outlet.New()
		push(t, x, long())
		push(t, x, long())
		x.Drain(x.Len() - rest)
		has(t, x, rest)
		lean(t, ahead, x)
		drains(t, x, 200, make([]byte, rest))
		lean(t, ahead, x)
	}
}

// Where there is always a rest, what is held does not grow by what went.
func TestAlwaysARest(t *testing.T) {
	ahead := inUse()
	x := outlet.New()
	push(t, x, sized(14))
	for range 1000 {
		for range 1000 {
			push(t, x, sized(14))
		}
		x.Drain(14 * 1000)
	}
	drains(t, x, 100, written(sized(14)))
	lean(t, ahead, x)
}

// Where many bytes wait, and for each frame that comes as many bytes go, they are not
// moved each time; nor where they go a few at a time.
func TestFewMoves(t *testing.T) {
	const count = 20000
	f := sized(14)
	x := outlet.New()
	fills(t, x, 14*count, slices.Repeat([]api.Frame{f}, count), count)
	ahead := used()
	for range count {
		push(t, x, f)
		drains(t, x, 14, written(f))
	}
	for range count {
		x.Drain(14)
	}
	has(t, x, 0)
	if moved := used() - ahead; moved > 60*count*14 {
		t.Errorf("%d bytes of memory for %d bytes", moved, count*14)
	}
}
