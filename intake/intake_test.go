package intake_test

import (
	"bytes"
	"encoding/binary"
	"math"
	"math/rand"
	"runtime"
	"slices"
	"testing"

	"gantlet/api"
	"gantlet/frame"
	"gantlet/intake"
)

// preface is the one that the document tells, byte by byte.
var preface = []byte{80, 82, 73, 32, 42, 32, 72, 84, 84, 80, 47, 50, 46, 48, 13, 10, 13, 10, 83, 77, 13, 10, 13, 10}

// made is an intake.
func made(t *testing.T, most int) *intake.Intake {
	t.Helper()
	x, e := intake.New(most)
	if x == nil || e != api.OK {
		t.Fatalf("New of %d: %v %d", most, x, e)
	}
	return x
}

// begun is an intake that the preface has come to.
func begun(t *testing.T, most int) *intake.Intake {
	t.Helper()
	x := made(t, most)
	x.Feed(preface)
	return x
}

// head is that of a frame with a payload of so many bytes.
func head(length, kind, flags int, stream uint32) []byte {
	b := []byte{byte(length >> 16), byte(length >> 8), byte(length), byte(kind), byte(flags)}
	return binary.BigEndian.AppendUint32(b, stream)
}

// ping is a frame's bytes, and the frame.
func ping(stream int, payload ...byte) ([]byte, api.Frame) {
	return append(head(len(payload), 6, 0, uint32(stream)), payload...), api.Frame{Kind: 6, Stream: stream, Payload: payload}
}

// has tells whether an intake begun has so many bytes.
func has(t *testing.T, x *intake.Intake, count int) {
	t.Helper()
	if !x.Begun() || x.Len() != count {
		t.Errorf("Begun %v, Len %d, not %d", x.Begun(), x.Len(), count)
	}
}

// tells tells whether just that frame comes next.
func tells(t *testing.T, x *intake.Intake, want api.Frame) {
	t.Helper()
	if f, e := x.Next(); !frame.Same(f, want) || e != api.OK {
		t.Errorf("told %d %d %d of %d bytes, %d, not %d %d %d of %d bytes", f.Kind, f.Flags, f.Stream, len(f.Payload), e, want.Kind, want.Flags, want.Stream, len(want.Payload))
	}
}

// fails tells whether an error comes next, again and again, and nothing beside it.
func fails(t *testing.T, x *intake.Intake, want api.Errno) {
	t.Helper()
	for range 3 {
		f, e := x.Next()
		if f.Kind != 0 || f.Flags != 0 || f.Stream != 0 || len(f.Payload) != 0 || e != want {
			t.Errorf("told %v %d, not %d", f, e, want)
		}
	}
}

// isOver tells whether one is over with an error, whatever comes yet.
func isOver(t *testing.T, x *intake.Intake, want api.Errno, began bool) {
	t.Helper()
	b, _ := ping(1)
	for _, more := range [][]byte{nil, {0}, preface, b, preface} {
		x.Feed(more)
		if x.Len() != 0 || x.Begun() != began {
			t.Errorf("over: Begun %v, Len %d", x.Begun(), x.Len())
		}
		fails(t, x, want)
	}
}

// model is the document's words told again: all bytes are kept for good, and all is
// worked out from them at each call.
type model struct {
	most, told int
	all        []byte
	asked      bool // a frame that is too long was asked for
}

// agreed is how many bytes of the preface came, and whether none differed.
func (m *model) agreed() (int, bool) {
	for i, b := range m.all[:min(24, len(m.all))] {
		if preface[i] != b {
			return i, false
		}
	}
	return min(24, len(m.all)), true
}

func (m *model) feed(b []byte) { m.all = append(m.all, b...) }

func (m *model) begun() bool { n, fine := m.agreed(); return fine && n == 24 }

func (m *model) count() int {
	n, fine := m.agreed()
	switch {
	case !fine || m.asked:
		return 0
	case n < 24:
		return n
	}
	return len(m.all) - 24 - m.told
}

func (m *model) next() (api.Frame, api.Errno) {
	n, fine := m.agreed()
	switch {
	case !fine:
		return api.Frame{}, api.ErrForm
	case n < 24:
		return api.Frame{}, api.ErrMore
	}
	rest := m.all[24+m.told:]
	if len(rest) < 9 {
		return api.Frame{}, api.ErrMore
	}
	length := int(binary.BigEndian.Uint32(rest) >> 8)
	if length > m.most {
		m.asked = true
		return api.Frame{}, api.ErrFull
	}
	if len(rest)-9 < length {
		return api.Frame{}, api.ErrMore
	}
	m.told += 9 + length
	stream := int(binary.BigEndian.Uint32(rest[5:]) << 1 >> 1)
	return api.Frame{Kind: api.Kind(rest[3]), Flags: int(rest[4]), Stream: stream, Payload: rest[9 : 9+length]}, api.OK
}

// agrees asks an intake and its model the same, so many times.
func agrees(t *testing.T, x *intake.Intake, m *model, times int) {
	t.Helper()
	for range times {
		if x.Begun() != m.begun() || x.Len() != m.count() {
			t.Fatalf("Begun %v, Len %d, not %v, %d", x.Begun(), x.Len(), m.begun(), m.count())
		}
		f, e := x.Next()
		want, wanted := m.next()
		if !frame.Same(f, want) || e != wanted {
			t.Fatalf("told %v %d, not %v %d", f, e, want, wanted)
		}
	}
	if x.Begun() != m.begun() || x.Len() != m.count() {
		t.Fatalf("Begun %v, Len %d, not %v, %d", x.Begun(), x.Len(), m.begun(), m.count())
	}
}

// P13.1: the preface's bytes, whoever wrote into what was answered.
func TestPreface(t *testing.T) {
	for range 3 {
		b := intake.Preface()
		if !bytes.Equal(b, preface) || len(b) != api.PrefaceSize || string(b) != "PRI * HTTP/2.0\r\n\r\nSM\r\n\r\n" {
			t.Fatalf("Preface is %q", b)
		}
		clear(b)
		begun(t, 16384).Feed(b)
	}
}

// P13.1: the most is from 16384 to 2^24 less 1.
func TestMost(t *testing.T) {
	for _, most := range []int{16384, 16385, 20000, 65536, 1<<24 - 2, 1<<24 - 1} {
		x := made(t, most)
		if x.Begun() || x.Len() != 0 {
			t.Errorf("%d: Begun %v, Len %d", most, x.Begun(), x.Len())
		}
		fails(t, x, api.ErrMore)
	}
	for _, most := range []int{16383, 16382, 24, 1, 0, -1, -16384, 1 << 24, 1<<24 + 1, 1<<24 + 16384, 1 << 31, 1<<32 + 16384, math.MaxInt, math.MinInt} {
		if x, e := intake.New(most); x != nil || e != api.ErrArg {
			t.Errorf("New of %d: %v %d", most, x, e)
		}
	}
}

// P13.1: the preface comes; its bytes count as long as it has not come whole.
func TestPrefaceComes(t *testing.T) {
	x := made(t, 16384)
	for i, b := range preface {
		if x.Begun() || x.Len() != i {
			t.Errorf("behind %d bytes: Begun %v, Len %d", i, x.Begun(), x.Len())
		}
		fails(t, x, api.ErrMore)
		x.Feed([]byte{b})
		x.Feed(nil)
	}
	has(t, x, 0)
	fails(t, x, api.ErrMore)
	for behind := range 40 {
		for at := range 25 {
			x := made(t, 16384)
			x.Feed(preface[:at])
			// Not asked ahead of it: it has begun all the same.
			x.Feed(append(slices.Clone(preface[at:]), make([]byte, behind)...))
			has(t, x, behind)
		}
	}
}

// P13.1: ErrForm, as soon as a byte of the preface differs, asked or not.
func TestOtherPreface(t *testing.T) {
	for at, right := range preface {
		for _, wrong := range []byte{right + 1, right ^ 32, right ^ 128, 0, 10, 13, 255, 'P'} {
			if wrong == right {
				continue
			}
			apart, other := made(t, 16384), slices.Clone(preface)
			other[at] = wrong
			apart.Feed(other[:at])
			if apart.Begun() || apart.Len() != at {
				t.Errorf("behind %d bytes: Begun %v, Len %d", at, apart.Begun(), apart.Len())
			}
			fails(t, apart, api.ErrMore)
			apart.Feed(other[at : at+1])
			isOver(t, apart, api.ErrForm, false)
			for end := at + 1; end <= len(other); end++ {
				x := made(t, 16384)
				x.Feed(other[:end])
				x.Feed(preface[min(at, end-1):])
				isOver(t, x, api.ErrForm, false)
			}
		}
	}
	b, _ := ping(1)
	for _, first := range []string{"GET / HTTP/1.1\r\n", "pri", "\x00", "RI * HTTP/2.0", "PRI * HTTP/2.0\n\nSM\n\n", "PRI * HTTP/2.0\r\nSM\r\n\r\n", string(b)} {
		x := made(t, 1<<24-1)
		x.Feed([]byte(first))
		isOver(t, x, api.ErrForm, false)
	}
}

// P13.1: behind the preface, nothing is held against it any more.
func TestPrefaceOnce(t *testing.T) {
	for _, count := range []int{1, 2, 3} {
		x := made(t, 1<<24-1)
		x.Feed(bytes.Repeat(preface, count))
		has(t, x, 24*count-24)
		fails(t, x, api.ErrMore)
		x.Feed([]byte{1, 2, 3})
		has(t, x, 24*count-21)
	}
	x := begun(t, 16384)
	x.Feed(preface)
	fails(t, x, api.ErrFull)
}

// P13.1: each frame is told once, in their order, with all that it has.
func TestFrames(t *testing.T) {
	x, all := begun(t, 16384), []byte{}
	var list []api.Frame
	for i, length := range []int{0, 1, 2, 8, 9, 10, 255, 256, 16383, 16384, 0} {
		f := api.Frame{Kind: api.Kind(i * 25), Flags: 250 - i*25, Stream: i * 214748364, Payload: bytes.Repeat([]byte{byte(i)}, length)}
		all = append(append(all, head(length, i*25, 250-i*25, uint32(i*214748364))...), f.Payload...)
		list = append(list, f)
	}
	x.Feed(all)
	left := len(all)
	for _, f := range list {
		has(t, x, left)
		tells(t, x, f)
		left -= 9 + len(f.Payload)
	}
	has(t, x, 0)
	fails(t, x, api.ErrMore)
}

// P13.1: a frame that may not come from this end, or means nothing, is told, too;
// the stream's highest bit is not looked at.
func TestAnyFrame(t *testing.T) {
	x := begun(t, 16384)
	for _, kind := range []int{0, 4, 5, 9, 10, 128, 255} {
		for _, stream := range []uint32{0, 1, 2, 1<<31 - 1, 1 << 31, 1<<31 + 5, 1<<32 - 1} {
			for _, flags := range []int{0, 1, 77, 255} {
				x.Feed(append(head(3, kind, flags, stream), 7, 8, 9))
				tells(t, x, api.Frame{Kind: api.Kind(kind), Flags: flags, Stream: int(stream &^ (1 << 31)), Payload: []byte{7, 8, 9}})
				has(t, x, 0)
			}
		}
	}
}

// P13.1: ErrMore, as long as a frame is not all there; it is told as soon as it is.
func TestMore(t *testing.T) {
	b, f := ping(3, 1, 2, 3, 4, 5, 6, 7, 8)
	for at := range len(b) {
		x := begun(t, 16384)
		x.Feed(b)
		x.Feed(b[:at])
		tells(t, x, f)
		has(t, x, at)
		fails(t, x, api.ErrMore)
		has(t, x, at)
		x.Feed(b[at : len(b)-1])
		fails(t, x, api.ErrMore)
		x.Feed(b[len(b)-1:])
		has(t, x, len(b))
		tells(t, x, f)
		has(t, x, 0)
		fails(t, x, api.ErrMore)
	}
}

// P13.1: ErrFull, if a frame has more than the most, by its first 9 bytes already;
// one that has just the most is told.
func TestTooLong(t *testing.T) {
	ahead, f := ping(9, 4)
	for _, most := range []int{16384, 16385, 20000, 65536, 1<<24 - 2} {
		x := begun(t, most)
		long := api.Frame{Kind: 0, Flags: 1, Stream: 5, Payload: bytes.Repeat([]byte{3}, most)}
		x.Feed(append(head(most, 0, 1, 5), long.Payload...))
		x.Feed(ahead)
		x.Feed(head(most+1, 0, 1, 5)[:8])
		tells(t, x, long)
		tells(t, x, f)
		fails(t, x, api.ErrMore)
		has(t, x, 8)
		// As soon as it is asked for, not ahead of that.
		x.Feed([]byte{5})
		has(t, x, 9)
		x.Feed([]byte{1, 2, 3})
		has(t, x, 12)
		fails(t, x, api.ErrFull)
		isOver(t, x, api.ErrFull, true)
	}
	for _, length := range []int{16385, 65536, 1<<24 - 1} {
		x := begun(t, 16384)
		x.Feed(append(head(length, 255, 255, 1<<32-1), make([]byte, length)...))
		x.Feed(ahead)
		has(t, x, 9+length+len(ahead))
		fails(t, x, api.ErrFull)
		isOver(t, x, api.ErrFull, true)
	}
}

// P13.1: the greatest frame that there is may come, if the most says so.
func TestGreatest(t *testing.T) {
	x := begun(t, 1<<24-1)
	b := head(1<<24-1, 1, 2, 3)
	x.Feed(b)
	fails(t, x, api.ErrMore)
	for range 255 {
		x.Feed(make([]byte, 1<<16))
	}
	fails(t, x, api.ErrMore)
	x.Feed(make([]byte, 1<<16-1))
	has(t, x, 9+1<<24-1)
	tells(t, x, api.Frame{Kind: 1, Flags: 2, Stream: 3, Payload: make([]byte, 1<<24-1)})
	has(t, x, 0)
}

// P13.1: on a nil one.
func TestNil(t *testing.T) {
	var x *intake.Intake
	for _, b := range [][]byte{nil, {1}, preface} {
		x.Feed(b)
		fails(t, x, api.ErrArg)
		if x.Begun() || x.Len() != 0 {
			t.Errorf("Begun %v, Len %d", x.Begun(), x.Len())
		}
	}
}

// talk is what a peer may say: mostly the preface, and frames; at times a wrong byte,
// a frame that is too long, or one that is cut short.
func talk(r *rand.Rand, most int) []byte {
	b := slices.Clone(preface)
	if r.Intn(6) == 0 {
		b[r.Intn(24)] ^= 1 << r.Intn(8)
	}
	for range r.Intn(12) {
		length := []int{0, 1, 5, 8, r.Intn(40), r.Intn(40), r.Intn(300), r.Intn(3000), r.Intn(3000), most - r.Intn(2)}[r.Intn(10)]
		if r.Intn(20) == 0 {
			length = most + 1 + r.Intn(2)*r.Intn(20000)
		}
		b = append(b, head(length, r.Intn(256), r.Intn(256), r.Uint32())...)
		for range length {
			b = append(b, byte(r.Intn(4)))
		}
	}
	if r.Intn(3) == 0 {
		b = b[:r.Intn(len(b)+1)]
	}
	return b
}

// asked is all that is told, up to an error.
func asked(x *intake.Intake) ([]api.Frame, api.Errno) {
	var list []api.Frame
	for {
		f, e := x.Next()
		if e != api.OK {
			return list, e
		}
		list = append(list, f)
	}
}

// chunks are bytes, cut anywhere.
func chunks(r *rand.Rand, b []byte) [][]byte {
	var list [][]byte
	most := []int{1, 2, 3, 10, 30, 100, 1000, 100000}[r.Intn(8)]
	for len(b) > 0 {
		n := min(len(b), r.Intn(most+1))
		list, b = append(list, b[:n]), b[n:]
	}
	return list
}

// told is all that is told of chunks, and the error at last; asked for behind each of
// them, if often, as much as there is.
func told(t *testing.T, most int, list [][]byte, often bool) ([]api.Frame, api.Errno) {
	t.Helper()
	x := made(t, most)
	var all []api.Frame
	for _, b := range list {
		x.Feed(b)
		if often {
			more, _ := asked(x)
			all = append(all, more...)
		}
	}
	more, e := asked(x)
	return append(all, more...), e
}

// P13.2: however bytes are cut, the frames, and the error at last, are the same.
func TestChunks(t *testing.T) {
	r := rand.New(rand.NewSource(13))
	var ends [10]int
	for range 500 {
		most := 16384 + r.Intn(2)*r.Intn(500)
		b := talk(r, most)
		list, end := told(t, most, [][]byte{b}, false)
		ends[end]++
		for range 4 {
			again, e := told(t, most, chunks(r, b), r.Intn(4) > 0)
			if !slices.EqualFunc(list, again, frame.Same) || e != end {
				t.Fatalf("%d frames, %d; cut otherwise, %d frames, %d", len(list), end, len(again), e)
			}
		}
	}
	if min(ends[api.ErrForm], ends[api.ErrFull], ends[api.ErrMore]) < 50 {
		t.Errorf("ends: %v", ends)
	}
}

// P13.2: cut in two anywhere, and in three; and byte by byte.
func TestCutAnywhere(t *testing.T) {
	first, f := ping(1, 1, 2, 3)
	second, g := ping(2)
	third, h := ping(3, 4)
	for _, x := range []struct {
		last []byte
		end  api.Errno
	}{{nil, api.ErrMore}, {[]byte{0, 0, 9, 0}, api.ErrMore}, {head(16385, 0, 0, 0), api.ErrFull}, {append(head(1<<24-1, 0, 0, 0), 1, 2), api.ErrFull}} {
		all := slices.Concat(preface, first, second, third, x.last)
		var single [][]byte
		for i := range all {
			single = append(single, all[i:i+1])
		}
		cuts := [][][]byte{single}
		for i := range all {
			for j := i; j <= len(all); j++ {
				cuts = append(cuts, [][]byte{all[:i], all[i:j], all[j:]})
			}
		}
		for _, cut := range cuts {
			for _, often := range []bool{true, false} {
				list, e := told(t, 16384, cut, often)
				if !slices.EqualFunc(list, []api.Frame{f, g, h}, frame.Same) || e != x.end {
					t.Fatalf("%d frames, %d, not %d", len(list), e, x.end)
				}
			}
		}
	}
}

// P13.1, P13.2: whatever comes, however it is cut, and asked or not in between, all is
// as the document's words, told again, have it.
func TestTold(t *testing.T) {
	r := rand.New(rand.NewSource(131))
	for range 500 {
		most := 16384 + r.Intn(3)
		x, m := made(t, most), &model{most: most}
		for _, b := range chunks(r, talk(r, most)) {
			x.Feed(b)
			m.feed(b)
			agrees(t, x, m, r.Intn(3)*r.Intn(3))
		}
		agrees(t, x, m, 20)
	}
}

// P1: every call ends, and none panics, at all arguments.
func TestNoPanic(t *testing.T) {
	r := rand.New(rand.NewSource(1))
	for range 3000 {
		most := r.Intn(1 << 24)
		x, _ := intake.New(most)
		m := &model{most: most}
		if r.Intn(4) > 0 {
			x.Feed(preface)
			m.feed(preface)
		}
		for range r.Intn(8) {
			b := make([]byte, r.Intn(200))
			for i := range b {
				b[i] = byte(r.Intn(256) >> r.Intn(9))
			}
			x.Feed(b)
			m.feed(b)
			if x != nil {
				agrees(t, x, m, r.Intn(6))
			}
			x.Next()
			m.next()
		}
	}
	x, _ := intake.New(math.MinInt)
	x.Feed(make([]byte, 1<<20))
	fails(t, x, api.ErrArg)
}

// P2: the same calls are answered alike, whatever comes to other intakes; what asks
// how things stand changes nothing.
func TestSameAgain(t *testing.T) {
	r := rand.New(rand.NewSource(2))
	for range 300 {
		b := talk(r, 16384)
		x, y, other := made(t, 16384), made(t, 16384), made(t, 20000)
		for _, part := range chunks(r, b) {
			x.Feed(part)
			other.Feed(b)
			other.Next()
			y.Feed(part)
			for range 3 {
				if x.Len() != y.Len() || x.Begun() != y.Begun() {
					t.Fatalf("%d %v, %d %v", x.Len(), x.Begun(), y.Len(), y.Begun())
				}
			}
			f, e := x.Next()
			g, again := y.Next()
			if !frame.Same(f, g) || e != again {
				t.Fatalf("%v %d, %v %d", f, e, g, again)
			}
			clear(g.Payload)
			intake.Preface()[0]++
		}
	}
}

// P2: what is handed in is neither written into nor kept; what lies behind its length
// is neither read nor written.
func TestHandedIn(t *testing.T) {
	r := rand.New(rand.NewSource(22))
	for range 300 {
		x, m := made(t, 16384), &model{most: 16384}
		for _, part := range chunks(r, talk(r, 16384)) {
			memory := append(slices.Clone(part), 0xa5, 0x5a, 0xa5)
			x.Feed(memory[:len(part)])
			m.feed(part)
			if !bytes.Equal(memory, append(slices.Clone(part), 0xa5, 0x5a, 0xa5)) {
				t.Fatalf("%v became %v", part, memory)
			}
			for i := range memory {
				memory[i] ^= 0xff
			}
			agrees(t, x, m, r.Intn(3))
		}
		agrees(t, x, m, 15)
	}
}

// P2: what is told is new memory: whoever writes into it, or behind it, changes
// nothing that comes later, and no other frame.
func TestNewMemory(t *testing.T) {
	r := rand.New(rand.NewSource(23))
	for range 300 {
		b := talk(r, 16384)
		want, end := told(t, 16384, [][]byte{b}, false)
		x := made(t, 16384)
		var list []api.Frame
		for _, part := range chunks(r, b) {
			x.Feed(part)
			more, _ := asked(x)
			for _, f := range more {
				list = append(list, api.Frame{Kind: f.Kind, Flags: f.Flags, Stream: f.Stream, Payload: slices.Clone(f.Payload)})
				whole := f.Payload[:cap(f.Payload)]
				for i := range whole {
					whole[i] ^= 0xff
				}
			}
		}
		if _, e := x.Next(); !slices.EqualFunc(list, want, frame.Same) || e != end {
			t.Fatalf("%d frames, %d, not %d, %d", len(list), e, len(want), end)
		}
	}
}

// inUse is how much memory is held, now that nothing else is.
func inUse() int {
	var m runtime.MemStats
	runtime.GC()
	runtime.ReadMemStats(&m)
	return int(m.HeapAlloc)
}

// used is how much memory was ever asked for.
func used() int {
	var m runtime.MemStats
	runtime.ReadMemStats(&m)
	return int(m.TotalAlloc)
}

// lean tells whether an intake, and whatever else is held, is but little more memory
// than there was ahead.
func lean(t *testing.T, ahead int, x *intake.Intake) {
	t.Helper()
	if held := inUse() - ahead; held > 1<<21 {
		t.Errorf("%d bytes are held", held)
	}
	runtime.KeepAlive(x)
}

// long is a frame's bytes, 8 MiB of payload.
func long() []byte { return append(head(1<<23, 0, 0, 1), make([]byte, 1<<23)...) }

// What came when it was over, or ahead of that, is not held on to.
func TestOverIsLean(t *testing.T) {
	ahead := inUse()
	for _, x := range []*intake.Intake{made(t, 16384), begun(t, 16384)} {
		x.Feed(long())
		x.Feed(long())
		x.Next()
		x.Feed(long())
		lean(t, ahead, x)
	}
}

// What was told is not held on to: neither where that was all, nor, as soon as more
// comes, where there is a rest.
func TestToldIsLean(t *testing.T) {
	b, f := ping(1)
	for rest := range b {
		ahead := inUse()
		x := begun(t, 1<<24-1)
		x.Feed(long())
		// By now there is room behind, as what comes in pieces makes it.
		x.Feed(b[:rest])
		x.Next()
		has(t, x, rest)
		if rest > 0 {
			x.Feed(nil)
			x.Feed(b[rest:])
			lean(t, ahead, x)
			tells(t, x, f)
		}
		lean(t, ahead, x)
	}
}

// Where there is always a rest, what is held does not grow by what was told.
func TestAlwaysARest(t *testing.T) {
	b, f := ping(1)
	ahead := inUse()
	x := begun(t, 16384)
	x.Feed(b[:5])
	for range 1000 {
		x.Feed(slices.Concat(b[5:], bytes.Repeat(b, 1000), b[:5]))
		for range 1001 {
			tells(t, x, f)
		}
	}
	has(t, x, 5)
	lean(t, ahead, x)
}

// Where many bytes wait, and each frame that is told is followed by one that comes,
// they are not moved each time.
func TestFewMoves(t *testing.T) {
	const count = 20000
	b, f := ping(1)
	x := begun(t, 16384)
	x.Feed(bytes.Repeat(b, count))
	ahead := used()
	for range count {
		tells(t, x, f)
		x.Feed(b)
	}
	has(t, x, count*len(b))
	if moved := used() - ahead; moved > 40*count*len(b) {
		t.Errorf("%d bytes of memory for %d bytes", moved, count*len(b))
	}
}
