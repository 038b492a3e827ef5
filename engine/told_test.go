package engine_test

import (
	"bytes"
	"math"
	"math/rand"
	"runtime"
	"slices"
	"strings"
	"testing"

	"gantlet/api"
	"gantlet/core"
	"gantlet/engine"
	"gantlet/frame"
)

// pick is one of some things.
func pick[T any](r *rand.Rand, l ...T) T { return l[r.Intn(len(l))] }

// someConfig is a configuration, of which at times much has little room.
func someConfig(r *rand.Rand) core.Config {
	k := core.Config{
		Table: pick(r, 0, 40, 100, 4096), List: pick(r, 124, 130, 1000, 65535), Streams: pick(r, 1, 2, 3, 5, 100), Window: pick(r, 0, 10, 20, 65535, 65535),
		Room: pick(r, 1, 4, 8, 64), Cap: pick(r, 0, 30, 65535, 65535), Memory: pick(r, 0, 1, 2, 5, 100),
	}
	for i := range k.Limits {
		k.Limits[i] = pick(r, 1, 3, 5, 10000, 10000, 10000)
	}
	if r.Intn(3) > 0 {
		k.Room = 64
		for i := range k.Limits {
			k.Limits[i] = max(k.Limits[i], 10)
		}
	}
	return k
}

// peer is what bytes come of, that suit a core most often.
type peer struct {
	*rand.Rand
	c *core.Core
	// next is the least id that was not used.
	next int
	// rest are bytes of a frame, of which some came.
	rest []byte
}

// newPeer is one that has said nothing.
func newPeer(r *rand.Rand, c *core.Core) *peer {
	first := slices.Clone(preface)
	if r.Intn(15) == 0 {
		first[r.Intn(24)] ^= 1 << r.Intn(8)
	}
	if r.Intn(30) > 0 {
		first = append(first, sets(0)...)
	}
	return &peer{Rand: r, c: c, next: 1, rest: first}
}

// rarely tells, once in so many times, that something is.
func (p *peer) rarely(times int) bool { return p.Intn(times) == 0 }

// id is that of a stream that there is, or was.
func (p *peer) id() int {
	if l := p.c.Active(); len(l) > 0 && !p.rarely(20) {
		return pick(p.Rand, l...)
	}
	return max(1, p.next-2)
}

// request is the frames of a new one.
func (p *peer) request() []byte {
	b := pick(p.Rand, asks, asks, []byte{130, 135, 68, 1, 'a'}, blockOf(append(slices.Clone(get), list("a", strings.Repeat("b", p.Intn(900)))...)), asks[:2])
	if p.rarely(60) {
		b = run(p.Intn(256), p.Intn(9))
	}
	id := p.next
	p.next += 2
	first, end := p.Intn(len(b)+1), p.Intn(2)
	if p.rarely(3) {
		return join(headers(id, end, b[:first]...), more(id, 0), more(id, 4, b[first:]...))
	}
	return headers(id, end|4, b...)
}

// data is some, at times padded, at times as much as a frame may have.
func (p *peer) data() []byte {
	id, end := p.id(), p.Intn(5)/4
	if p.rarely(4) {
		return data(id, end|8, append([]byte{2}, run(p.Intn(256), 2+p.Intn(9))...)...)
	}
	return data(id, end, run(p.Intn(256), pick(p.Rand, 0, 1, 5, 9, 200, 3000, 16384))...)
}

// frames are those that come next, one most often.
func (p *peer) frames() []byte {
	if p.next == 1 || len(p.c.Active()) == 0 && !p.rarely(8) {
		return p.request()
	}
	switch p.Intn(24) {
	case 0, 1, 2, 3, 4, 5:
		return p.request()
	case 6, 7, 8, 9, 10, 11:
		return p.data()
	case 12:
		return ping(p.Intn(2), run(p.Intn(256), 8)...)
	case 13:
		return pick(p.Rand, sets(0), sets(1), sets(0, 4, 50), sets(0, 4, 100000, 5, 20000))
	case 14, 15, 16:
		return grow(pick(p.Rand, 0, p.id(), p.id()), pick(p.Rand, 1, 10, 1000, 50000))
	case 17:
		return reset(p.id(), p.Intn(13))
	case 18:
		return headers(p.id(), 5, blockOf(list("a", "b"))...)
	case 19:
		return pick(p.Rand, away(p.Intn(9), p.Intn(12)), append(head(3, 77, 9, p.Intn(99)), 1, 2, 3), append(head(5, 2, 0, p.id()), 0, 0, 0, 0, 9))
	case 20:
		return append(head(16384, 66, 6, p.Intn(99)), make([]byte, 16384)...)
	case 21, 22:
		if p.rarely(12) {
			return pick(
				p.Rand, head(16385, 0, 0, p.id()), ping(0, 1), preface, make([]byte, 30), data(p.next, 0, 1), grow(p.id(), 0), more(p.id(), 4), headers(2, 5, asks...),
				grow(0, 1<<31-1), sets(0, 4, 1<<31),
			)
		}
	}
	return p.request()
}

// bytes are what comes next: frames, cut off anywhere.
func (p *peer) bytes() []byte {
	b := p.rest
	for range pick(p.Rand, 0, 1, 1, 2, 3, 6) {
		b = append(b, p.frames()...)
	}
	cut := len(b)
	if p.rarely(2) {
		cut = p.Intn(len(b) + 1)
	}
	p.rest = slices.Clone(b[cut:])
	return slices.Clone(b[:cut])
}

// step is one, with which at times something is wrong.
func (p *peer) step() step {
	x := step{id: p.id(), last: p.rarely(3)}
	switch p.Intn(20) {
	case 0, 1, 2:
		x.call, x.list = respond, pick(p.Rand, yes, yes, yes, list(":status", "204", "a", strings.Repeat("b", p.Intn(2000))), get)
	case 3, 4, 5:
		x.call, x.bytes = say, run(p.Intn(256), pick(p.Rand, 0, 1, 20, 1000, 20000))
	case 6:
		if p.rarely(3) {
			x.call, x.n = end, pick(p.Rand, 0, 8, 1<<32-1, 1<<32, -1)
		} else {
			x.call = tick
		}
	case 7:
		if p.rarely(20) {
			x.call = shutdown
		} else {
			x.call = tick
		}
	case 8, 9, 10, 11, 12:
		x.call, x.n = drain, pick(p.Rand, -1, 0, 1, 2, 8, 9, 10, 40, 100, 1000, 16393, 40000, 1<<20, math.MaxInt, math.MinInt)
	default:
		x.bytes = p.bytes()
	}
	return x
}

// pieces cuts bytes anywhere.
func pieces(r *rand.Rand) func([]byte) [][]byte {
	return func(b []byte) [][]byte {
		var l [][]byte
		most := pick(r, 1, 2, 3, 10, 30, 100, 1000, 20000, 100000)
		for len(b) > 0 {
			n := min(len(b), r.Intn(most+1))
			l, b = append(l, b[:n]), b[n:]
		}
		return l
	}
}

// talk is steps, as they come of a peer, and what they are answered.
func talk(r *rand.Rand, k core.Config) ([]step, []answer) {
	m := newModel(k)
	p := newPeer(r, m.c)
	var steps []step
	var answers []answer
	left := 10 + r.Intn(80)
	for left > 0 {
		x := p.step()
		steps, answers = append(steps, x), append(answers, x.do(m, whole))
		left--
		if m.Over() {
			left = min(left, 10)
		}
	}
	return steps, answers
}

// replays tells whether a new engine answers steps just so, what is fed being cut.
func replays(t *testing.T, k core.Config, steps []step, answers []answer, cut func([]byte) [][]byte) {
	t.Helper()
	e := made(t, k)
	for i, x := range steps {
		if a := x.do(e, cut); !a.same(answers[i]) {
			t.Fatalf("%v: step %d: of %s is answered %s, not %s", k, i, short(x), short(a), short(answers[i]))
		}
	}
}

// P22.1, P22.2: whatever comes, and is said, and however what comes is cut, all is as the
// document's words, told again, have it.
func TestTold(t *testing.T) {
	r := rand.New(rand.NewSource(221))
	alive, ended, kinds := 0, map[api.Code]int{}, map[core.Kind]int{}
	for range 1000 {
		k := someConfig(r)
		steps, answers := talk(r, k)
		replays(t, k, steps, answers, whole)
		for range 2 {
			replays(t, k, steps, answers, pieces(r))
		}
		if !answers[len(answers)-1].over {
			alive++
		}
		for _, a := range answers {
			for _, x := range a.events {
				kinds[x.Kind]++
				if x.Kind == core.Over {
					ended[x.Code]++
				}
			}
		}
	}
	if alive < 200 || len(kinds) < 7 || min(ended[1], ended[3], ended[5], ended[6], ended[9], ended[11]) < 10 {
		t.Errorf("alive %d, ended %v, events %v", alive, ended, kinds)
	}
}

// P22.2: each byte by itself, and pieces of few bytes.
func TestSmallPieces(t *testing.T) {
	r := rand.New(rand.NewSource(222))
	for range 100 {
		k := someConfig(r)
		steps, answers := talk(r, k)
		replays(t, k, steps, answers, single)
		for _, size := range []int{2, 3, 8, 9, 10, 16383, 16384, 16385, 16393} {
			replays(t, k, steps, answers, by(size))
		}
	}
}

// P22.2: cut in two anywhere, and in three.
func TestCutAnywhere(t *testing.T) {
	first := join(preface, sets(0), headers(1, 4, 130), ping(0, run(0, 8)...))
	for _, b := range [][]byte{
		join(preface, sets(0), headers(1, 0, 130), more(1, 4, 132, 135), data(1, 0, 7, 8), grow(1, 1), head(16385, 0, 0, 1), []byte{1, 2}),
		join(preface, sets(0), headers(1, 4, asks...), ping(0, run(0, 8)...), data(5, 0, 1), ping(0)), first, first[3:], join(preface[:20], preface),
		join(preface, sets(0), headers(1, 5, asks...), headers(3, 5, asks...), sets(0, 4, 9)[:10]),
	} {
		steps := []step{{bytes: b}, {call: respond, id: 1, list: yes, last: true}, {call: drain, n: 45}, {bytes: ping(0, run(0, 8)...)}, {call: drain, n: 1 << 30}}
		m := newModel(small())
		var answers []answer
		for _, x := range steps {
			answers = append(answers, x.do(m, whole))
		}
		for i := range b {
			for j := i; j <= len(b); j++ {
				replays(t, small(), steps, answers, func(c []byte) [][]byte {
					if len(c) < len(b) {
						return whole(c)
					}
					return [][]byte{c[:i], c[i:j], c[j:]}
				})
			}
		}
	}
}

// ways lets all ways of so many more steps happen to a new engine, and its model.
func ways(t *testing.T, done, all []step, left int) {
	t.Helper()
	if left > 0 {
		for _, x := range all {
			ways(t, append(done, x), all, left-1)
		}
		return
	}
	k := core.Config{Table: 50, List: 200, Streams: 2, Window: 5, Room: 3, Cap: 9, Memory: 1, Limits: [6]int{1, 2, 3, 1, 1, 1}}
	e, m := made(t, k), newModel(k)
	for _, x := range done {
		agrees(t, e, m, x, whole)
	}
}

// P22.1: all ways of few steps, of which some are halves of frames.
func TestWaysOfSteps(t *testing.T) {
	one, two := ping(0, run(0, 8)...), headers(1, 4, asks...)
	var all []step
	for _, b := range [][]byte{one[:12], one[12:], one, two[:5], two[5:], data(1, 1, 7), head(16385, 0, 0, 0), sets(0), reset(1, 8), nil} {
		all = append(all, step{bytes: b})
	}
	for _, n := range []int{0, 1, 12, 1000} {
		all = append(all, step{call: drain, n: n})
	}
	all = append(all, step{call: respond, id: 1, list: yes}, step{call: say, id: 1, bytes: run(0, 3), last: true}, step{call: end, id: 1, n: 8}, step{call: shutdown}, step{call: tick})
	ways(t, nil, append(all, step{bytes: preface}, step{bytes: preface[:7]}, step{bytes: preface[7:]}), 3)
	begun := []step{{bytes: join(preface, sets(0), two)}}
	ways(t, begun, all, 3)
	ways(t, append(begun, step{call: respond, id: 1, list: yes}, step{call: drain, n: 50}), all, 3)
	ways(t, append(begun, step{call: drain, n: 1000}, step{bytes: bytes.Repeat(one, 2)}), all, 3)
}

// P22.3: however much is asked for each time, what is drained is whole frames, those that
// the core sends, one behind the other; the last one is perhaps cut short, and what is
// missing waits.
func TestWholeFrames(t *testing.T) {
	r := rand.New(rand.NewSource(223))
	for range 600 {
		k := someConfig(r)
		steps, _ := talk(r, k)
		e := made(t, k)
		var all []byte
		for _, x := range steps {
			a := x.do(e, whole)
			all = append(all, a.bytes...)
			isWhole(t, all, a.out)
		}
		for {
			b := e.Drain(pick(r, 1, 2, 9, 100, 1000, 100000))
			all = append(all, b...)
			_, out := e.Kept()
			isWhole(t, all, out)
			if len(b) == 0 {
				break
			}
		}
		l, n, err := frame.All(all, 16384)
		if err != api.OK || n != len(all) {
			t.Fatalf("of %d bytes, %d are %d frames, %d", len(all), n, len(l), err)
		}
	}
}

// isWhole tells whether bytes are whole frames, the last one perhaps cut short, and
// whether just as many bytes wait as are missing.
func isWhole(t *testing.T, b []byte, waiting int) {
	t.Helper()
	l, n, err := frame.All(b, 16384)
	rest := b[n:]
	if err != api.OK && err != api.ErrMore || (err == api.OK) != (len(rest) == 0) {
		t.Fatalf("of %d bytes, %d are %d frames, %d", len(b), n, len(l), err)
	}
	missing := 0
	if len(rest) >= 9 {
		missing = 9 + int(rest[0])<<16 + int(rest[1])<<8 + int(rest[2]) - len(rest)
	}
	if len(rest) >= 9 && waiting != missing || len(rest) == 0 && waiting != 0 || len(rest) > 0 && waiting < 1 {
		t.Fatalf("behind %d bytes of a frame %d wait", len(rest), waiting)
	}
}

// P21.2: behind Over no event comes; what is sent is what waited, what was queued, and at
// last one GoAway with that code.
func TestOver(t *testing.T) {
	r := rand.New(rand.NewSource(212))
	for range 800 {
		k := someConfig(r)
		e, m := made(t, k), newModel(k)
		p := newPeer(r, m.c)
		for !e.Over() {
			_, waited := e.Kept()
			queued := e.Core().Held()
			a := agrees(t, e, m, p.step(), pieces(r))
			i := slices.IndexFunc(a.events, func(x core.Event) bool { return x.Kind == core.Over })
			if e.Over() != (i >= 0) || e.Over() && i < len(a.events)-1 {
				t.Fatalf("told is %s, over %t", short(a.events), e.Over())
			}
			if e.Over() {
				lastOf(t, e, p, a.events[i].Code, waited, queued.Frames)
			}
		}
	}
}

// lastOf tells whether an engine that is over sends what waited, frames of which so many
// at least were queued, and one GoAway with a code at the end, and is over for good.
func lastOf(t *testing.T, e *engine.Engine, p *peer, code api.Code, waited, queued int) {
	t.Helper()
	highest, count := 0, e.Core().Held().Frames
	var all []byte
	for !e.Done() {
		feeds(t, e, p.bytes())
		shuts(t, e, api.ErrOver)
		b := e.Drain(pick(p.Rand, 1, 5, 9, 33, 1000))
		if all = append(all, b...); len(b) == 0 {
			t.Fatal("nothing is drained, but it is not done")
		}
	}
	l, n, err := frame.All(all[waited:], 16384)
	if err != api.OK || n != len(all)-waited || len(l) != count || count <= queued {
		t.Fatalf("%d frames, %d, not %d; %d were queued", len(l), err, count, queued)
	}
	for i, f := range l {
		ends := f.Kind == api.GoAway && f.Payload[7] != 0
		if f.Kind == api.Data || f.Kind == api.Headers || ends != (i == count-1) {
			t.Errorf("frame %d of %d is %s", i, count, short(f))
		}
		if f.Kind == api.Reset {
			highest = max(highest, f.Stream)
		}
	}
	f := l[count-1]
	if !bytes.Equal(f.Payload[4:], num(int(code))) || !bytes.Equal(laid(f)[:9], head(8, 7, 0, 0)) || bytes.Compare(f.Payload[:4], num(highest)) < 0 {
		t.Errorf("the last one is %s, the code %d", short(f), code)
	}
	feeds(t, e, p.bytes())
	drains(t, e, 100, nil)
	stands(t, e, true, true)
}

// number is one of any size.
func number(r *rand.Rand) int {
	n := int(r.Uint64() >> r.Intn(64))
	if r.Intn(3) == 0 {
		return -n
	}
	return n
}

// P1: every call ends, and none panics, at all arguments, on every engine that was given,
// a nil one too, and one that was not.
func TestNoPanic(t *testing.T) {
	r := rand.New(rand.NewSource(1))
	for i := range 3000 {
		k := someConfig(r)
		if i%3 == 0 {
			*pick(r, &k.Table, &k.List, &k.Streams, &k.Window, &k.Room, &k.Cap, &k.Memory, &k.Limits[r.Intn(6)]) = number(r)
		}
		e, err := engine.New(k)
		if (e == nil) != !core.Right(k) || (e == nil) != (err == api.ErrArg) {
			t.Fatalf("New(%v) is %v, %d", k, e, err)
		}
		if i%20 == 0 {
			e = &engine.Engine{}
		}
		p := newPeer(r, e.Core())
		for range 40 {
			id := pick(r, 1, 3, 5, r.Intn(12), number(r))
			switch r.Intn(10) {
			case 0:
				e.Respond(id, pick(r, yes, nil, []api.Field{{}}, list(":status", "200", "a", strings.Repeat("\xff", r.Intn(1<<10)))), r.Intn(2) == 0)
			case 1:
				e.Data(id, make([]byte, r.Intn(99)), r.Intn(2) == 0)
			case 2:
				e.Reset(id, api.Code(number(r)))
			case 3:
				e.Drain(pick(r, number(r), r.Intn(99)))
			case 4:
				e.Tick()
			case 5:
				b := make([]byte, r.Intn(40))
				r.Read(b)
				e.Feed(b[:r.Intn(len(b)+1)/pick(r, 1, 1, 100)])
			default:
				e.Feed(p.bytes())
			}
			if in, out := e.Kept(); in < 0 || in > 16392 || out < 0 || out > 16392 {
				t.Fatalf("kept are %d, %d", in, out)
			}
		}
		e.Shutdown()
		// Wherever a frame ends that was begun: behind it one is too long.
		e.Feed(bytes.Repeat([]byte{255}, 40000))
		e.Drain(math.MaxInt)
		if there := e.Core() != nil; e.Over() != there || e.Done() != there {
			t.Fatalf("over %t, done %t", e.Over(), e.Done())
		}
	}
}

// P2: the same calls are answered alike, whatever happens to other engines; asking how
// things stand changes nothing.
func TestSameAgain(t *testing.T) {
	r := rand.New(rand.NewSource(2))
	for range 300 {
		k := someConfig(r)
		steps, answers := talk(r, k)
		x, y, other := made(t, k), made(t, k), made(t, k)
		elsewhere := newPeer(r, other.Core())
		for i, s := range steps {
			a := s.do(x, whole)
			elsewhere.step().do(other, pieces(r))
			b := s.do(y, whole)
			for range r.Intn(3) {
				in, out := x.Kept()
				keeps(t, y, in, out)
				stands(t, y, x.Over(), x.Done())
				y.Core().Held()
				y.Drain(0)
			}
			if !a.same(answers[i]) || !b.same(answers[i]) {
				t.Fatalf("%v: step %d", k, i)
			}
		}
	}
}

// spoil writes into a list, and behind it.
func spoil[T any](l []T, with T) {
	l = l[:cap(l)]
	for i := range l {
		l[i] = with
	}
}

// P2: what is handed in is neither written into nor kept; what lies behind its length is
// neither read nor written.
func TestHandedIn(t *testing.T) {
	r := rand.New(rand.NewSource(22))
	for range 300 {
		k := someConfig(r)
		steps, answers := talk(r, k)
		e := made(t, k)
		for i, x := range steps {
			memory := append(slices.Clone(x.bytes), 0xaa, 0xaa, 0xaa)
			fields := append(slices.Clone(x.list), api.Field{Name: "x"})
			all, was := slices.Clone(memory), slices.Clone(fields)
			x.bytes, x.list = memory[:len(x.bytes)], fields[:len(x.list)]
			a := x.do(e, pieces(r))
			if !bytes.Equal(memory, all) || !slices.Equal(fields, was) {
				t.Fatalf("what was handed in became %s, %s", short(memory), short(fields))
			}
			spoil(memory, 0xee)
			spoil(fields, api.Field{Name: "y"})
			if !a.same(answers[i]) {
				t.Fatalf("%v: step %d", k, i)
			}
		}
	}
}

// P2: what is told, or drained, is new memory: whoever writes into it, or behind it,
// changes nothing that is told, or drained, later.
func TestNewMemory(t *testing.T) {
	r := rand.New(rand.NewSource(23))
	for range 300 {
		k := someConfig(r)
		steps, answers := talk(r, k)
		e := made(t, k)
		var told, want []answer
		for i, x := range steps {
			a := x.do(e, whole)
			if !a.same(answers[i]) {
				t.Fatalf("%v: step %d", k, i)
			}
			if r.Intn(2) == 0 {
				told, want = append(told, a), append(want, answers[i])
				continue
			}
			for _, v := range a.events {
				spoil(v.Bytes, 0xee)
				spoil(v.Fields, api.Field{Name: "x"})
			}
			spoil(a.events, over(99))
			spoil(a.bytes, 0xee)
			spoil(a.active, 99)
		}
		if !slices.EqualFunc(told, want, answer.same) {
			t.Fatal("what was told became something else")
		}
	}
}

// inUse is how much memory is held, now that nothing else is.
func inUse() int {
	var m runtime.MemStats
	runtime.GC()
	runtime.ReadMemStats(&m)
	return int(m.HeapAlloc)
}

// lean tells whether engines are but little more memory than there was ahead.
func lean(t *testing.T, ahead, most int, l ...*engine.Engine) {
	t.Helper()
	if held := inUse() - ahead; held > most {
		t.Errorf("%d bytes are held", held)
	}
	runtime.KeepAlive(l)
}

// What came is not held on to, however much came at once, and whatever is left of it.
func TestCameIsLean(t *testing.T) {
	for _, rest := range []int{0, 1, 9, 16392} {
		e := greeted(t, wide())
		ahead := inUse()
		long := append(head(16384, 99, 0, 0), make([]byte, 16384)...)
		feeds(t, e, join(bytes.Repeat(long, 500), long[:rest]))
		keeps(t, e, rest, 0)
		lean(t, ahead, 1<<18, e)
	}
	ahead := inUse()
	e := made(t, wide())
	feeds(t, e, make([]byte, 1<<24), over(1))
	lean(t, ahead, 1<<18, e)
}

// While many bytes come at once, no copy of them all is made.
func TestComeIsLean(t *testing.T) {
	e := greeted(t, wide())
	b := append(head(1<<24-1, 99, 0, 0), make([]byte, 1<<25)...)
	var m, n runtime.MemStats
	runtime.ReadMemStats(&m)
	l := e.Feed(b)
	runtime.ReadMemStats(&n)
	tells(t, "a frame that is too long", l, []core.Event{over(6)})
	if used := n.TotalAlloc - m.TotalAlloc; used > 1<<18 {
		t.Errorf("%d bytes of memory", used)
	}
}

// What came of a frame is not held on to, once the engine is over, however it became so.
func TestOverIsLean(t *testing.T) {
	k := small()
	k.Room = 3
	var all []*engine.Engine
	for range 300 {
		e := greeted(t, k, 1)
		feeds(t, e, bytes.Repeat(ping(0, run(0, 8)...), 3))
		all = append(all, e)
	}
	ahead := inUse()
	part := append(head(16384, 99, 0, 0), make([]byte, 16383)...)
	for i, e := range all {
		feeds(t, e, part)
		keeps(t, e, len(part), 0)
		switch i % 3 {
		case 0:
			shuts(t, e, api.OK, over(11))
		case 1:
			resets(t, e, 1, 8, api.OK, over(11))
		case 2:
			feeds(t, e, join([]byte{0}, ping(0), part), over(6))
		}
		keeps(t, e, 0, 0)
	}
	lean(t, ahead, 1<<20, all...)
}

// What was drained is not held on to.
func TestDrainedIsLean(t *testing.T) {
	var all []*engine.Engine
	for range 100 {
		e := greeted(t, wide(), 1)
		all = append(all, e)
	}
	ahead := inUse()
	for _, e := range all {
		is(t, "Respond", e.Respond(1, yes, false), api.OK)
		is(t, "Data", e.Data(1, make([]byte, 65535), true), api.OK)
		if n := len(e.Drain(1 << 30)); n != 65535+11+4*9 {
			t.Errorf("%d bytes", n)
		}
		keeps(t, e, 0, 0)
	}
	lean(t, ahead, 1<<20, all...)
}
