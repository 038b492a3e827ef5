package frame_test

import (
	"bytes"
	"encoding/binary"
	"math"
	"math/rand"
	"strconv"
	"testing"

	"gantlet/api"
	"gantlet/frame"
)

// laid is a frame's bytes, as the library lays its numbers.
func laid(f api.Frame) []byte {
	b := binary.BigEndian.AppendUint32(nil, uint32(len(f.Payload)))[1:]
	b = append(b, byte(f.Kind), byte(f.Flags))
	b = binary.BigEndian.AppendUint32(b, uint32(f.Stream))
	return append(b, f.Payload...)
}

// head is the first bytes of a frame whose payload has so many.
func head(length int) []byte {
	b := binary.BigEndian.AppendUint32(nil, uint32(length))[1:]
	return append(b, 1, 4, 0, 0, 0, 3)
}

// alike tells whether two frames are, without asking the package.
func alike(a, b api.Frame) bool {
	return a.Kind == b.Kind && a.Flags == b.Flags && a.Stream == b.Stream && string(a.Payload) == string(b.Payload)
}

// empty tells whether a frame is the zero one.
func empty(f api.Frame) bool { return alike(f, api.Frame{}) }

// text is a frame, short enough to be told.
func text(f api.Frame) string {
	s := strconv.Itoa(int(f.Kind)) + " " + strconv.Itoa(f.Flags) + " " + strconv.Itoa(f.Stream)
	return s + " of " + strconv.Itoa(len(f.Payload)) + " bytes"
}

// counted is a payload of so many bytes.
func counted(n int) []byte {
	b := make([]byte, n)
	for i := range b {
		b[i] = byte(i*7 + 1)
	}
	return b
}

// good are frames that may be: the ends of what each part may be, and others.
func good() []api.Frame {
	l := []api.Frame{
		{},
		{Payload: []byte{}},
		{Kind: api.Ping, Flags: api.Ack, Stream: 258, Payload: []byte{7, 8}},
		{Kind: 255, Flags: 255, Stream: api.MaxID, Payload: bytes.Repeat([]byte{255}, 255)},
		{Kind: 1, Flags: 2, Stream: 0x03040506, Payload: []byte{7, 8, 9}},
	}
	for _, n := range []int{0, 1, 9, 10, 127, 128, 200, 254, 255} {
		l = append(l, api.Frame{Kind: api.Kind(n)}, api.Frame{Flags: n}, api.Frame{Kind: api.Kind(n), Flags: 255 - n, Stream: n, Payload: counted(n)})
	}
	for bit := range 31 {
		l = append(l, api.Frame{Stream: 1 << bit}, api.Frame{Stream: 1<<bit - 1, Payload: []byte{byte(bit)}})
	}
	for _, n := range []int{1, 8, 9, 10, 255, 256, 257, 16383, api.MinFrame, 16385, 65535, 65536, 65537} {
		l = append(l, api.Frame{Kind: api.Data, Stream: 1, Payload: counted(n)})
	}
	return l
}

// bad are frames that may not be, each by one part alone, but the last.
func bad() []api.Frame {
	return []api.Frame{
		{Kind: -1}, {Kind: 256}, {Kind: -256}, {Kind: 257}, {Kind: 1 << 32}, {Kind: math.MinInt}, {Kind: math.MaxInt},
		{Flags: -1}, {Flags: 256}, {Flags: -256}, {Flags: 260}, {Flags: 1 << 32}, {Flags: math.MinInt}, {Flags: math.MaxInt},
		{Stream: -1}, {Stream: 1 << 31}, {Stream: 1<<31 + 1}, {Stream: 1<<32 - 1}, {Stream: 1 << 32}, {Stream: math.MinInt}, {Stream: math.MaxInt},
		{Payload: make([]byte, api.MaxFrame+1)}, {Payload: make([]byte, 2*api.MaxFrame+2)},
		{Kind: -1, Flags: -1, Stream: -1, Payload: make([]byte, api.MaxFrame+1)},
	}
}

// P2.1: a frame may be, if each of its parts may.
func TestRight(t *testing.T) {
	for _, f := range good() {
		if !frame.Right(f) {
			t.Errorf("%s may not be", text(f))
		}
	}
	for _, f := range bad() {
		if frame.Right(f) {
			t.Errorf("%s may be", text(f))
		}
	}
	for n := -300; n <= 600; n++ {
		may := 0 <= n && n <= 255
		if frame.Right(api.Frame{Kind: api.Kind(n)}) != may || frame.Right(api.Frame{Flags: n}) != may {
			t.Errorf("kind or flags %d: not %t", n, may)
		}
	}
	if !frame.Right(api.Frame{Kind: 255, Flags: 255, Stream: api.MaxID, Payload: make([]byte, api.MaxFrame)}) {
		t.Error("a frame with the greatest parts may not be")
	}
}

// P2.1: a frame's bytes, by those of its numbers; its head's size.
func TestEncode(t *testing.T) {
	if frame.HeadSize != 9 {
		t.Errorf("a head has %d bytes", frame.HeadSize)
	}
	for i, x := range []struct {
		f    api.Frame
		want []byte
	}{
		{api.Frame{}, []byte{0, 0, 0, 0, 0, 0, 0, 0, 0}},
		{api.Frame{Kind: 6, Flags: 1, Stream: 258, Payload: []byte{7, 8}}, []byte{0, 0, 2, 6, 1, 0, 0, 1, 2, 7, 8}},
		{api.Frame{Kind: 1, Flags: 37, Stream: 0x01020304, Payload: []byte{9}}, []byte{0, 0, 1, 1, 37, 1, 2, 3, 4, 9}},
		{api.Frame{Kind: 255, Flags: 254, Stream: api.MaxID}, []byte{0, 0, 0, 255, 254, 127, 255, 255, 255}},
		{api.Frame{Flags: 128, Stream: 1 << 30}, []byte{0, 0, 0, 0, 128, 64, 0, 0, 0}},
	} {
		if b, e := frame.Encode(x.f); e != api.OK || !bytes.Equal(b, x.want) {
			t.Errorf("%d: %v, %d, not %v", i, b, e, x.want)
		}
	}
	for _, f := range good() {
		if b, e := frame.Encode(f); e != api.OK || !bytes.Equal(b, laid(f)) {
			t.Errorf("%s: %d bytes, %d", text(f), len(b), e)
		}
	}
	most := api.Frame{Kind: 9, Flags: 4, Stream: 1, Payload: counted(api.MaxFrame)}
	if b, e := frame.Encode(most); e != api.OK || !bytes.Equal(b, laid(most)) || !bytes.Equal(b[:3], []byte{255, 255, 255}) {
		t.Errorf("%s: %d bytes, %d", text(most), len(b), e)
	}
}

// P2.1: a frame that may not be has no bytes.
func TestEncodeErrors(t *testing.T) {
	for _, f := range bad() {
		if b, e := frame.Encode(f); e != api.ErrArg || len(b) != 0 {
			t.Errorf("%s: %d bytes, %d", text(f), len(b), e)
		}
	}
}

// P2.1: the frame that bytes begin with, and how many bytes it has.
func TestNext(t *testing.T) {
	for i, x := range []struct {
		b     []byte
		most  int
		want  api.Frame
		count int
	}{
		{[]byte{0, 0, 0, 0, 0, 0, 0, 0, 0}, 0, api.Frame{}, 9},
		{[]byte{0, 0, 2, 6, 1, 0, 0, 1, 2, 7, 8}, 2, api.Frame{Kind: 6, Flags: 1, Stream: 258, Payload: []byte{7, 8}}, 11},
		{[]byte{0, 0, 2, 6, 1, 0, 0, 1, 2, 7, 8, 9, 9, 9}, 2, api.Frame{Kind: 6, Flags: 1, Stream: 258, Payload: []byte{7, 8}}, 11},
		{[]byte{0, 0, 1, 255, 255, 127, 255, 255, 255, 5}, math.MaxInt, api.Frame{Kind: 255, Flags: 255, Stream: api.MaxID, Payload: []byte{5}}, 10},
		{[]byte{0, 0, 0, 200, 129, 1, 2, 3, 4, 5}, 1, api.Frame{Kind: 200, Flags: 129, Stream: 0x01020304}, 9},
	} {
		if f, n, e := frame.Next(x.b, x.most); e != api.OK || n != x.count || !alike(f, x.want) {
			t.Errorf("%d: %s, %d, %d", i, text(f), n, e)
		}
	}
}

// P2.1: the highest bit of a stream is not looked at.
func TestHighestBit(t *testing.T) {
	for _, id := range []int{0, 1, 2, 258, 1 << 24, 1 << 30, api.MaxID - 1, api.MaxID} {
		b := laid(api.Frame{Kind: 8, Stream: id, Payload: []byte{128, 0, 0, 1}})
		b[5] |= 128
		want := api.Frame{Kind: 8, Stream: id, Payload: []byte{128, 0, 0, 1}}
		if f, n, e := frame.Next(b, 4); e != api.OK || n != 13 || !alike(f, want) {
			t.Errorf("%d: %s, %d, %d", id, text(f), n, e)
		}
		if l, n, e := frame.All(b, 4); e != api.OK || n != 13 || len(l) != 1 || !alike(l[0], want) {
			t.Errorf("%d: %d frames, %d, %d", id, len(l), n, e)
		}
	}
}

// P2.1: fewer bytes than a head; then more than may be, by the head alone;
// then bytes that are not all there.
func TestNextErrors(t *testing.T) {
	check := func(b []byte, most int, want api.Errno) {
		t.Helper()
		if f, n, e := frame.Next(b, most); e != want || n != 0 || !empty(f) {
			t.Errorf("%d bytes, at most %d: %s, %d, %d, not %d", len(b), most, text(f), n, e, want)
		}
	}
	mosts := []int{math.MinInt, -1 << 32, -1, 0, 1, api.MinFrame, api.MaxFrame, api.MaxFrame + 1, 1 << 32, math.MaxInt}
	for _, length := range []int{0, 1, 2, 255, 256, 16384, 16385, 65536, api.MaxFrame} {
		b := head(length)
		for _, most := range append(mosts, length-1) {
			for count := range frame.HeadSize {
				check(b[:count], most, api.ErrMore)
			}
			if length > most {
				check(b, most, api.ErrFull)
				check(append(b[:9:9], 1, 2, 3), most, api.ErrFull)
			} else if length > 0 {
				check(b, most, api.ErrMore)
			}
		}
		if length > 0 {
			check(b, length, api.ErrMore)
			check(append(b[:9:9], make([]byte, length-1)...), length, api.ErrMore)
			check(append(b[:9:9], make([]byte, length)...), length-1, api.ErrFull)
		}
	}
	check(nil, 9, api.ErrMore)
	check(nil, -1, api.ErrMore)
}

// P2.1: the payload may have as many bytes as most tells.
func TestMost(t *testing.T) {
	for _, length := range []int{0, 1, 255, 256, 16384, 16385, 70000} {
		b := append(head(length), make([]byte, length)...)
		for _, most := range []int{length, length + 1, api.MaxFrame, math.MaxInt} {
			if f, n, e := frame.Next(b, most); e != api.OK || n != len(b) || len(f.Payload) != length {
				t.Errorf("%d, at most %d: %d, %d, %d", length, most, len(f.Payload), n, e)
			}
		}
	}
}

// told tells whether All answers these frames, of so many bytes, and an error.
func told(t *testing.T, b []byte, most int, want []api.Frame, count int, errno api.Errno) {
	t.Helper()
	l, n, e := frame.All(b, most)
	same := len(l) == len(want)
	for i := range l {
		same = same && alike(l[i], want[i])
	}
	if !same || n != count || e != errno {
		t.Errorf("%d bytes, at most %d: %d frames of %d bytes, %d; not %d of %d, %d", len(b), most, len(l), n, e, len(want), count, errno)
	}
}

// P2.1: all frames that bytes are, and how many bytes they have.
func TestAll(t *testing.T) {
	told(t, nil, 9, nil, 0, api.OK)
	told(t, []byte{}, -1, nil, 0, api.OK)
	told(t, make([]byte, 9), 0, make([]api.Frame, 1), 9, api.OK)
	told(t, make([]byte, 27), 0, make([]api.Frame, 3), 27, api.OK)
	l := good()
	var b []byte
	for i, f := range l {
		b = append(b, laid(f)...)
		told(t, b, 65537, l[:i+1], len(b), api.OK)
	}
	many := make([]byte, 9*20000)
	told(t, many, 0, make([]api.Frame, 20000), len(many), api.OK)
}

// P2.1: up to the first that Next has an error of, which is told, with the
// frames ahead of it.
func TestAllErrors(t *testing.T) {
	a := api.Frame{Kind: 4, Payload: []byte{0, 3, 0, 0, 0, 100}}
	c := api.Frame{Kind: 6, Flags: 1, Payload: counted(8)}
	ahead := append(laid(a), laid(c)...)
	with := func(b ...byte) []byte { return append(bytes.Clone(ahead), b...) }
	two := []api.Frame{a, c}
	for count := 1; count < frame.HeadSize; count++ {
		told(t, with(head(9)[:count]...), 8, two, 32, api.ErrMore)
		told(t, head(9)[:count], 8, nil, 0, api.ErrMore)
	}
	told(t, with(head(9)...), 8, two, 32, api.ErrFull)
	told(t, with(head(8)...), 8, two, 32, api.ErrMore)
	told(t, with(append(head(8), make([]byte, 7)...)...), 8, two, 32, api.ErrMore)
	// What is behind the first that is none is not told, whole as it is.
	told(t, with(append(append(head(9), make([]byte, 9)...), ahead...)...), 8, two, 32, api.ErrFull)
	told(t, with(append(head(9), ahead...)...), 8, two, 32, api.ErrFull)
	told(t, append(laid(c), ahead...), 6, nil, 0, api.ErrFull)
	told(t, ahead, 7, two[:1], 15, api.ErrFull)
	told(t, ahead, -1, nil, 0, api.ErrFull)
	told(t, make([]byte, 9), -1, nil, 0, api.ErrFull)
	told(t, make([]byte, 8), -1, nil, 0, api.ErrMore)
	told(t, make([]byte, 20), 0, make([]api.Frame, 2), 18, api.ErrMore)
}

// P2.1: have two the same?
func TestSame(t *testing.T) {
	l := append(good(), bad()[:21]...)
	for i, f := range l {
		for j, g := range l {
			if frame.Same(f, g) != alike(f, g) {
				t.Errorf("%d and %d: %s and %s, not %t", i, j, text(f), text(g), alike(f, g))
			}
		}
		g := f
		g.Payload = bytes.Clone(f.Payload)
		if !frame.Same(f, g) || !frame.Same(g, f) {
			t.Errorf("%s is not the same as itself", text(f))
		}
		longer := g
		longer.Payload = append(bytes.Clone(f.Payload), 0)
		other := g
		other.Stream ^= 1
		for _, h := range []api.Frame{longer, other} {
			if frame.Same(f, h) || frame.Same(h, f) {
				t.Errorf("%s is the same as %s", text(f), text(h))
			}
		}
		for at := range min(len(f.Payload), 300) {
			g.Payload[at] ^= 128
			if frame.Same(f, g) {
				t.Errorf("%s is the same with another byte %d", text(f), at)
			}
			g.Payload[at] ^= 128
		}
	}
	if !frame.Same(api.Frame{}, api.Frame{Payload: []byte{}}) {
		t.Error("a list without elements may be nil or not")
	}
}

// P2.2, T1: a frame that may be is the one that its bytes begin with, whatever
// is behind them; cut short anywhere, they are ErrMore.
func TestThereAndBack(t *testing.T) {
	behind := [][]byte{nil, {0}, {255}, counted(8), counted(9), make([]byte, 9), bytes.Repeat([]byte{255}, 40)}
	for _, f := range good() {
		b, e := frame.Encode(f)
		if e != api.OK {
			t.Fatalf("%s: %d", text(f), e)
		}
		for _, more := range behind {
			if g, n, e := frame.Next(append(b[:len(b):len(b)], more...), len(f.Payload)); e != api.OK || n != len(b) || !frame.Same(f, g) || !alike(f, g) {
				t.Fatalf("%s comes back as %s, %d, %d", text(f), text(g), n, e)
			}
		}
		step := 1 + len(b)/500
		for cut := 0; cut < len(b); cut += step {
			if g, n, e := frame.Next(b[:cut], len(f.Payload)); e != api.ErrMore || n != 0 || !empty(g) {
				t.Fatalf("%s, cut at %d, is %s, %d, %d", text(f), cut, text(g), n, e)
			}
		}
		if _, n, e := frame.Next(b[:len(b)-1], len(f.Payload)); e != api.ErrMore || n != 0 {
			t.Fatalf("%s, without its last byte, is %d, %d", text(f), n, e)
		}
	}
	most := api.Frame{Kind: 255, Flags: 255, Stream: api.MaxID, Payload: counted(api.MaxFrame)}
	b, _ := frame.Encode(most)
	if f, n, e := frame.Next(append(b, 1), api.MaxFrame); e != api.OK || n != len(b) || !alike(f, most) {
		t.Errorf("%s comes back as %s, %d, %d", text(most), text(f), n, e)
	}
}

// P2.2, T1: bytes of frames are those frames; cut short anywhere, they are
// those that are whole, and ErrMore if some are left.
func TestFramesThereAndBack(t *testing.T) {
	r := rand.New(rand.NewSource(2))
	for range 60 {
		var list []api.Frame
		var b []byte
		whole := map[int]int{0: 0}
		for range r.Intn(12) {
			f := api.Frame{Kind: api.Kind(r.Intn(256)), Flags: r.Intn(256), Stream: r.Intn(api.MaxID), Payload: make([]byte, r.Intn(40))}
			r.Read(f.Payload)
			list = append(list, f)
			c, e := frame.Encode(f)
			if e != api.OK {
				t.Fatalf("%s: %d", text(f), e)
			}
			b = append(b, c...)
			whole[len(b)] = len(list)
		}
		told(t, b, 39, list, len(b), api.OK)
		count, ends := 0, 0
		for cut := range b {
			if n, ok := whole[cut]; ok {
				count, ends = n, cut
				told(t, b[:cut], 39, list[:count], ends, api.OK)
				continue
			}
			told(t, b[:cut], 39, list[:count], ends, api.ErrMore)
		}
	}
}

// P2.2: bytes that are a frame are those of it, but for the highest bit.
func TestBytesThereAndBack(t *testing.T) {
	r := rand.New(rand.NewSource(22))
	for range 2000 {
		b := make([]byte, 9+r.Intn(60))
		r.Read(b)
		b[0], b[1], b[2] = 0, 0, byte(r.Intn(len(b)-8))
		f, n, e := frame.Next(b, 60)
		if e != api.OK || n != 9+int(b[2]) || !frame.Right(f) {
			t.Fatalf("%v is %s, %d, %d", b, text(f), n, e)
		}
		b[5] &= 127
		if c, e := frame.Encode(f); e != api.OK || !bytes.Equal(c, b[:n]) {
			t.Fatalf("%v is a frame whose bytes are %v, %d", b[:n], c, e)
		}
	}
}

// P1: every call ends, and none panics, at all arguments; and beside an error
// all else is zero, but the frames ahead of it.
func TestNoPanic(t *testing.T) {
	for _, f := range append(good(), bad()...) {
		b, e := frame.Encode(f)
		if frame.Right(f) != (e == api.OK) || frame.Right(f) != (len(b) > 0) {
			t.Fatalf("%s: %d bytes, %d", text(f), len(b), e)
		}
	}
	r := rand.New(rand.NewSource(1))
	for range 4000 {
		b := make([]byte, r.Intn(80))
		r.Read(b)
		if len(b) > 2 && r.Intn(4) > 0 {
			b[0], b[1], b[2] = 0, 0, b[2]%64
		}
		most := []int{math.MinInt, -1, 0, r.Intn(64), api.MaxFrame, math.MaxInt}[r.Intn(6)]
		f, n, e := frame.Next(b, most)
		if e == api.OK && n != 9+len(f.Payload) || e != api.OK && (n != 0 || !empty(f)) {
			t.Fatalf("%v: %s, %d, %d", b, text(f), n, e)
		}
		l, at, end := frame.All(b, most)
		sum := 0
		for _, f := range l {
			sum += 9 + len(f.Payload)
		}
		if at != sum || at > len(b) || (end == api.OK) != (at == len(b)) {
			t.Fatalf("%v: %d frames of %d bytes, %d, %d", b, len(l), sum, at, end)
		}
		if _, n, e := frame.Next(b[at:], most); end != api.OK && (e != end || n != 0) {
			t.Fatalf("%v: All ends with %d, Next with %d", b, end, e)
		}
	}
}

// P2: the same arguments are answered alike, whatever was asked between.
func TestSameAgain(t *testing.T) {
	var first []string
	for round := range 3 {
		i := 0
		for _, most := range []int{-1, 0, 8, 300} {
			for _, g := range good()[:20] {
				b := laid(g)
				for _, cut := range []int{len(b), len(b) - 1, 9, 8} {
					f, n, e := frame.Next(b[:cut], most)
					l, at, end := frame.All(b[:cut], most)
					c, _ := frame.Encode(f)
					s := string(c) + strconv.Itoa(n) + " " + strconv.Itoa(int(e)) + " " + strconv.Itoa(len(l)) + " " + strconv.Itoa(at) + " " + strconv.Itoa(int(end))
					if round == 0 {
						first = append(first, s)
					} else if first[i] != s {
						t.Fatalf("%s: first %q, then %q", text(g), first[i], s)
					}
					i++
				}
			}
		}
	}
}

// P2: what is handed in is not written into; what lies behind a list's length
// is neither read nor written.
func TestArgumentsStay(t *testing.T) {
	whole := append(laid(api.Frame{Kind: 6, Flags: 1, Payload: counted(8)}), laid(api.Frame{Kind: 4, Payload: counted(6)})...)
	for _, fill := range []byte{0, 255} {
		for count := range len(whole) + 1 {
			b := append(bytes.Clone(whole[:count]), bytes.Repeat([]byte{fill}, 40)...)
			was := bytes.Clone(b)
			f, n, e := frame.Next(b[:count], 8)
			l, at, end := frame.All(b[:count], 8)
			f2, n2, e2 := frame.Next(whole[:count:count], 8)
			l2, at2, end2 := frame.All(whole[:count:count], 8)
			if !alike(f, f2) || n != n2 || e != e2 || len(l) != len(l2) || at != at2 || end != end2 {
				t.Fatalf("%d bytes with %d behind: %d %d %d %d %d, else %d %d %d %d %d", count, fill, n, e, len(l), at, end, n2, e2, len(l2), at2, end2)
			}
			if !bytes.Equal(b, was) {
				t.Fatalf("%v became %v", was, b)
			}
		}
		b := append(counted(5), bytes.Repeat([]byte{fill}, 40)...)
		was := bytes.Clone(b)
		f := api.Frame{Kind: 6, Payload: b[:5]}
		if c, e := frame.Encode(f); e != api.OK || len(c) != 14 || !frame.Same(f, f) || !bytes.Equal(b, was) {
			t.Fatalf("%v, %d; %v became %v", c, e, was, b)
		}
		if !frame.Same(f, api.Frame{Kind: 6, Payload: counted(5)}) {
			t.Fatal("what is behind a payload's length is looked at")
		}
	}
}

// spoil writes over all that a list has, behind its length too.
func spoil(b []byte) {
	b = b[:cap(b)]
	for i := range b {
		b[i] = 100
	}
}

// P2: what is answered is new memory: neither an argument nor another list
// changes with it.
func TestNewMemory(t *testing.T) {
	one := api.Frame{Kind: 6, Flags: 1, Payload: counted(8)}
	two := api.Frame{Kind: 4, Stream: 7, Payload: counted(6)}
	b := append(laid(one), laid(two)...)
	was := bytes.Clone(b)
	f, _, _ := frame.Next(b, 8)
	g, _, _ := frame.Next(b, 8)
	l, _, _ := frame.All(b, 8)
	m, _, _ := frame.All(b, 8)
	spoil(f.Payload)
	spoil(l[0].Payload)
	if !bytes.Equal(b, was) || !alike(g, one) || !alike(l[1], two) || !alike(m[0], one) {
		t.Errorf("a payload shares memory: %v, %v, %v, %v", b, g, l[1], m[0])
	}
	l = l[:cap(l)]
	clear(l)
	spoil(b)
	if !alike(g, one) || !alike(m[0], one) || !alike(m[1], two) {
		t.Errorf("a payload is kept from the argument: %v, %v", g, m)
	}
	payload := counted(8)
	c, _ := frame.Encode(api.Frame{Kind: 6, Flags: 1, Payload: payload})
	d, _ := frame.Encode(api.Frame{Kind: 6, Flags: 1, Payload: payload})
	spoil(c)
	if !bytes.Equal(payload, counted(8)) || !bytes.Equal(d, laid(one)) {
		t.Errorf("a frame's bytes share memory: %v, %v", payload, d)
	}
	spoil(payload)
	if !bytes.Equal(d, laid(one)) {
		t.Errorf("a frame's bytes share memory with its payload: %v", d)
	}
}
