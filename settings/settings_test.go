package settings_test

import (
	"bytes"
	"encoding/binary"
	"math"
	"math/rand"
	"slices"
	"testing"

	"gantlet/api"
	"gantlet/payload"
	"gantlet/settings"
)

// first is the set at first, as the document tells it.
var first = settings.Set{Table: 4096, Push: 1, Streams: -1, Window: 65535, Frame: 16384, List: -1}

// other is a set of which no number is one of the first set.
var other = settings.Set{Table: 11, Push: 0, Streams: 13, Window: 14, Frame: 16400, List: 16}

// pair is one.
func pair(id, value int) payload.Pair { return payload.Pair{ID: id, Value: value} }

// all are pairs, of an id and a value each.
func all(l ...int) []payload.Pair {
	var pairs []payload.Pair
	for two := range slices.Chunk(l, 2) {
		pairs = append(pairs, pair(two[0], two[1]))
	}
	return pairs
}

// makes tells whether pairs make just that of a set.
func makes(t *testing.T, s settings.Set, l []payload.Pair, want settings.Set, more int) {
	t.Helper()
	if made, by, code := settings.Apply(s, l); made != want || by != more || code != api.NoError {
		t.Errorf("%v of %v: %v %d %d, not %v %d", l, s, made, by, code, want, more)
	}
}

// fails tells whether pairs have just that first fault: the set is as it was.
func fails(t *testing.T, s settings.Set, l []payload.Pair, want api.Code) {
	t.Helper()
	if made, by, code := settings.Apply(s, l); made != s || by != 0 || code != want {
		t.Errorf("%v of %v: %v %d %d, not %d", l, s, made, by, code, want)
	}
}

// says tells whether the payload of pairs is just that.
func says(t *testing.T, l []payload.Pair, want ...byte) {
	t.Helper()
	if b, e := settings.Encode(l); !bytes.Equal(b, want) || e != api.OK {
		t.Errorf("%v: %v %d, not %v", l, b, e, want)
	}
}

// wrong tells whether pairs have no payload.
func wrong(t *testing.T, l []payload.Pair) {
	t.Helper()
	if b, e := settings.Encode(l); len(b) != 0 || e != api.ErrArg {
		t.Errorf("%v: %v %d", l, b, e)
	}
}

// The document's words, told again, in an array instead of a struct.

// six are a set's numbers, in the order of their ids.
func six(s settings.Set) [6]int {
	return [6]int{s.Table, s.Push, s.Streams, s.Window, s.Frame, s.List}
}

// set is the one of six numbers.
func set(n [6]int) settings.Set {
	return settings.Set{Table: n[0], Push: n[1], Streams: n[2], Window: n[3], Frame: n[4], List: n[5]}
}

// faultOf is a pair's, or NoError.
func faultOf(p payload.Pair) api.Code {
	if p.ID == 2 && p.Value != 0 && p.Value != 1 {
		return 1
	}
	if p.ID == 4 && p.Value > 2147483647 {
		return 3
	}
	if p.ID == 5 && (p.Value < 16384 || p.Value > 16777215) {
		return 1
	}
	return 0
}

// agrees tells whether pairs make what is told again, with the first fault's code.
// The windows are such as have a difference.
func agrees(t *testing.T, s settings.Set, l []payload.Pair) api.Code {
	t.Helper()
	n := six(s)
	for _, p := range l {
		if code := faultOf(p); code != 0 {
			fails(t, s, l, code)
			return code
		}
		if 1 <= p.ID && p.ID <= 6 {
			n[p.ID-1] = p.Value
		}
	}
	makes(t, s, l, set(n), n[3]-s.Window)
	return 0
}

// P12.1: the set at first, whatever was made of it.
func TestFirst(t *testing.T) {
	for range 3 {
		s := settings.First()
		if s != first {
			t.Fatalf("First is %v, not %v", s, first)
		}
		s.Table, s.Window = 0, 0
		settings.Apply(settings.First(), all(1, 7, 4, 8))
	}
}

// P12.1: a pair makes its id's number its value, and none else.
func TestEachNumber(t *testing.T) {
	big := 1<<32 - 1
	values := map[int][]int{
		1: {0, 1, 4095, 4096, 4097, 65536, 1<<31 - 1, 1 << 31, big},
		2: {0, 1},
		3: {0, 1, 2, 100, 101, 1<<31 - 1, 1 << 31, big},
		4: {0, 1, 14, 65534, 65535, 65536, 1<<31 - 2, 1<<31 - 1},
		5: {16384, 16385, 16400, 65536, 1<<24 - 2, 1<<24 - 1},
		6: {0, 1, 65535, 1<<31 - 1, 1 << 31, big},
	}
	for id := 1; id <= 6; id++ {
		for _, value := range values[id] {
			for _, s := range []settings.Set{first, other, {}} {
				n := six(s)
				n[id-1] = value
				more := 0
				if id == 4 {
					more = value - s.Window
				}
				makes(t, s, all(id, value), set(n), more)
			}
		}
	}
}

// P12.1: other ids make none, whatever their values.
func TestOtherIDs(t *testing.T) {
	for _, id := range []int{0, 7, 8, 9, 10, 11, 100, 256, 257, 258, 260, 261, 262, 512, 1024, 65535, 65536, 65537, 65540, -1, -2, -4, -5, 1<<32 + 2, 1<<32 + 4, math.MaxInt, math.MinInt} {
		for _, value := range []int{0, 1, 2, 65535, 1<<31 - 1, 1 << 31, 1<<32 - 1, 1 << 32, -1, math.MaxInt, math.MinInt} {
			makes(t, first, all(id, value), first, 0)
			makes(t, other, all(id, value, 4, 20, id, value), set([6]int{11, 0, 13, 20, 16400, 16}), 6)
		}
	}
	makes(t, first, nil, first, 0)
	makes(t, other, []payload.Pair{}, other, 0)
}

// P12.1: each fault, just beside what may be.
func TestFaults(t *testing.T) {
	far := []int{1 << 32, 1<<40 + 1, math.MaxInt}
	for _, s := range []settings.Set{first, other, {}} {
		for _, value := range append(far, 2, 3, 255, 256, 257, 1<<16, 1<<31, 1<<31+1, 1<<32-1, -1, -2, math.MinInt, math.MinInt+1) {
			fails(t, s, all(2, value), api.Protocol)
		}
		for _, value := range append(far, 1<<31, 1<<31+1, 1<<32-1) {
			fails(t, s, all(4, value), api.FlowControl)
		}
		for _, value := range append(far, 0, 1, 16382, 16383, 1<<24, 1<<24+1, 1<<24+16384, 1<<31, 1<<32-1, -1, -16384, math.MinInt) {
			fails(t, s, all(5, value), api.Protocol)
		}
	}
}

// P12.1: the first fault's code, and the set as it was, whatever stands ahead of it
// or behind.
func TestFirstFault(t *testing.T) {
	push, window, frame := pair(2, 2), pair(4, 1<<31), pair(5, 16383)
	fine := all(1, 1, 2, 0, 3, 3, 4, 4, 5, 16385, 6, 6, 9, 1<<31)
	for _, x := range []struct {
		bad  []payload.Pair
		code api.Code
	}{
		{[]payload.Pair{push}, api.Protocol},
		{[]payload.Pair{window}, api.FlowControl},
		{[]payload.Pair{frame}, api.Protocol},
		{[]payload.Pair{push, window}, api.Protocol},
		{[]payload.Pair{window, push}, api.FlowControl},
		{[]payload.Pair{frame, window}, api.Protocol},
		{[]payload.Pair{window, frame}, api.FlowControl},
		{[]payload.Pair{window, frame, push}, api.FlowControl},
		{[]payload.Pair{frame, window, push}, api.Protocol},
	} {
		for _, s := range []settings.Set{first, other} {
			fails(t, s, x.bad, x.code)
			fails(t, s, slices.Concat(fine, x.bad), x.code)
			fails(t, s, slices.Concat(x.bad, fine), x.code)
			for i := range x.bad {
				// One that may be, of the same id, mends nothing.
				fails(t, s, slices.Concat(fine, x.bad[:i], fine, x.bad[i:], fine), x.code)
			}
		}
	}
}

// P12.1: how much greater the window is than it was ahead of all pairs, or less.
func TestHowMuchGreater(t *testing.T) {
	for _, x := range []struct{ ahead, value, more int }{
		{65535, 65535, 0},
		{65535, 65536, 1},
		{65535, 65534, -1},
		{65535, 0, -65535},
		{65535, 1<<31 - 1, 1<<31 - 65536},
		{0, 0, 0},
		{0, 1<<31 - 1, 1<<31 - 1},
		{1<<31 - 1, 0, -(1<<31 - 1)},
		{1<<31 - 1, 1<<31 - 1, 0},
		{-7, 5, 12},
		{5, -7, -12},
		{1 << 40, 3, 3 - 1<<40},
		{-1 << 40, 3, 3 + 1<<40},
	} {
		s := first
		s.Window = x.ahead
		want := s
		want.Window = x.value
		makes(t, s, all(4, x.value), want, x.more)
		makes(t, s, all(4, 9, 4, 1<<31-1, 1, 4096, 4, x.value, 7, 9), want, x.more)
	}
	// The other numbers make no difference.
	makes(t, first, all(1, 1<<20, 3, 1<<20, 5, 1<<20, 6, 1<<20), set([6]int{1 << 20, 1, 1 << 20, 65535, 1 << 20, 1 << 20}), 0)
}

// P12.1: nothing wraps round, however far apart two windows are: more stays more, and
// less stays less.
func TestNoWrap(t *testing.T) {
	far := []int{math.MinInt, math.MinInt + 1, math.MinInt + 65535, -1 << 62, -1 << 31, -65536, -1, 0, 1, 65535, 1<<31 - 1}
	for _, ahead := range append(far, 1<<31, 1<<62, math.MaxInt-1, math.MaxInt) {
		for _, value := range far {
			s := first
			s.Window = ahead
			made, by, code := settings.Apply(s, all(4, value))
			s.Window = value
			if made != s || code != api.NoError {
				t.Fatalf("%d made %d: %v %d", ahead, value, made, code)
			}
			if (value > ahead) != (by > 0) || (value < ahead) != (by < 0) {
				t.Errorf("%d made %d is greater by %d", ahead, value, by)
			}
			if back := ahead + by; back != value && by != math.MaxInt && by != math.MinInt {
				t.Errorf("%d made %d is greater by %d", ahead, value, by)
			}
		}
		s := first
		s.Window = ahead
		makes(t, s, all(1, 4096), s, 0)
	}
}

// P12.1: the bytes of pairs.
func TestEncode(t *testing.T) {
	says(t, nil)
	says(t, []payload.Pair{})
	says(t, all(0, 0), 0, 0, 0, 0, 0, 0)
	says(t, all(1, 4096), 0, 1, 0, 0, 16, 0)
	says(t, all(4, 65535), 0, 4, 0, 0, 255, 255)
	says(t, all(258, 0x03040506), 1, 2, 3, 4, 5, 6)
	says(t, all(65535, 1<<32-1), 255, 255, 255, 255, 255, 255)
	says(t, all(255, 1<<31), 0, 255, 128, 0, 0, 0)
	says(t, all(256, 1<<31-1), 1, 0, 127, 255, 255, 255)
	says(t, all(3, 100, 3, 7, 1, 0), 0, 3, 0, 0, 0, 100, 0, 3, 0, 0, 0, 7, 0, 1, 0, 0, 0, 0)
	// Pairs with a fault have bytes, too: who says them is another's matter.
	says(t, all(2, 2, 4, 1<<31, 5, 0), 0, 2, 0, 0, 0, 2, 0, 4, 128, 0, 0, 0, 0, 5, 0, 0, 0, 0)
}

// P12.1: an id, or a value, without bytes, wherever the pair stands.
func TestEncodeErrors(t *testing.T) {
	var bad []payload.Pair
	for _, id := range []int{-1, -2, -65535, -65536, 65536, 65537, 131072, 1<<32 + 1, 1 << 48, math.MaxInt, math.MinInt} {
		bad = append(bad, pair(id, 0), pair(id, 1<<32-1), pair(id, 1<<32))
	}
	for _, value := range []int{-1, -2, -1 << 31, -1 << 32, 1 << 32, 1<<32 + 1, 1 << 40, math.MaxInt, math.MinInt} {
		bad = append(bad, pair(0, value), pair(1, value), pair(65535, value))
	}
	fine := all(1, 2, 65535, 1<<32-1)
	for _, p := range bad {
		l := []payload.Pair{p}
		wrong(t, l)
		wrong(t, slices.Concat(fine, l))
		wrong(t, slices.Concat(l, fine))
		wrong(t, slices.Concat(fine, l, fine))
	}
}

// somePair is any with bytes, mostly of a number of a set, and without a fault.
func somePair(r *rand.Rand) payload.Pair {
	values := []int{0, 1, 2, 16383, 16384, 65535, 1<<24 - 1, 1 << 24, 1<<31 - 1, 1 << 31, 1<<32 - 1, r.Intn(1 << 32), r.Intn(1 << 16)}
	p := pair(1+r.Intn(6), values[r.Intn(len(values))])
	switch r.Intn(12) {
	case 0:
		p.ID = r.Intn(1 << 16)
	case 1:
		p.ID = r.Intn(10)
	case 2:
		return p
	}
	switch p.ID {
	case 2:
		p.Value %= 2
	case 4:
		p.Value %= 1 << 31
	case 5:
		p.Value = 16384 + p.Value%(1<<24-16384)
	}
	return p
}

// somePairs are a few.
func somePairs(r *rand.Rand) []payload.Pair {
	l := make([]payload.Pair, r.Intn(12))
	for i := range l {
		l[i] = somePair(r)
	}
	return l
}

// finePairs are a few without a fault.
func finePairs(r *rand.Rand) []payload.Pair {
	return slices.DeleteFunc(somePairs(r), func(p payload.Pair) bool { return faultOf(p) != 0 })
}

// someSet is any that pairs can have made.
func someSet(r *rand.Rand) settings.Set {
	s, _, _ := settings.Apply(settings.First(), finePairs(r))
	return s
}

// P12.1: any pairs, told again in other words.
func TestModel(t *testing.T) {
	r := rand.New(rand.NewSource(31))
	seen := map[api.Code]int{}
	for range 200000 {
		seen[agrees(t, someSet(r), somePairs(r))]++
	}
	for _, code := range []api.Code{api.NoError, api.Protocol, api.FlowControl} {
		if seen[code] < 1000 {
			t.Errorf("code %d: %d lists", code, seen[code])
		}
	}
}

// P12.2: of one id the last value counts.
func TestLastCounts(t *testing.T) {
	makes(t, first, all(1, 5, 1, 6, 1, 7), set([6]int{7, 1, -1, 65535, 16384, -1}), 0)
	makes(t, first, all(2, 0, 2, 1, 2, 0), set([6]int{4096, 0, -1, 65535, 16384, -1}), 0)
	makes(t, first, all(2, 0, 2, 1), first, 0)
	makes(t, first, all(4, 0, 4, 1<<31-1, 4, 65530), set([6]int{4096, 1, -1, 65530, 16384, -1}), -5)
	makes(t, first, all(4, 0, 4, 65535), first, 0)
	r := rand.New(rand.NewSource(32))
	for range 30000 {
		s, l := someSet(r), finePairs(r)
		made, by, code := settings.Apply(s, l)
		if code != api.NoError {
			t.Fatalf("%v of %v: %d", l, s, code)
		}
		var last []payload.Pair
		for i, p := range l {
			again := func(q payload.Pair) bool { return q.ID == p.ID }
			if !slices.ContainsFunc(l[i+1:], again) {
				last = append(last, p)
			}
		}
		makes(t, s, last, made, by)
		// Of pairs of several ids the order makes no difference.
		r.Shuffle(len(last), func(i, j int) { last[i], last[j] = last[j], last[i] })
		makes(t, s, last, made, by)
	}
}

// P12.2: pairs of other ids make no difference: neither those that make no number, nor
// those that make another one.
func TestOthersMakeNoDifference(t *testing.T) {
	r := rand.New(rand.NewSource(33))
	for range 30000 {
		s, l := someSet(r), finePairs(r)
		made, by, _ := settings.Apply(s, l)
		var mixed []payload.Pair
		for _, p := range append(l, pair(0, 0)) {
			for range r.Intn(3) {
				mixed = append(mixed, pair(7+r.Intn(65529), r.Intn(1<<32)))
			}
			mixed = append(mixed, p)
		}
		makes(t, s, mixed, made, by)
		for id := 1; id <= 6; id++ {
			own := slices.DeleteFunc(slices.Clone(l), func(p payload.Pair) bool { return p.ID != id })
			part, _, _ := settings.Apply(s, own)
			if six(part)[id-1] != six(made)[id-1] {
				t.Errorf("%v of %v: with id %d alone %v, else %v", l, s, id, part, made)
			}
		}
	}
}

// P12.1: pairs one after the other, at once or in two calls.
func TestOneAfterTheOther(t *testing.T) {
	r := rand.New(rand.NewSource(34))
	for range 30000 {
		s, l := someSet(r), finePairs(r)
		at := r.Intn(len(l) + 1)
		half, more, _ := settings.Apply(s, l[:at])
		made, yet, _ := settings.Apply(half, l[at:])
		makes(t, s, l, made, more+yet)
	}
}

// read is what the peer reads of a payload of Settings.
func read(t *testing.T, b []byte) []payload.Pair {
	t.Helper()
	p, fault, ok := payload.Read(api.Frame{Kind: api.Settings, Payload: b})
	if !ok {
		t.Fatalf("%v: %v", b, fault)
	}
	return p.Pairs
}

// P12.2, T1: what is encoded is read as it was.
func TestThereAndBack(t *testing.T) {
	back := func(l []payload.Pair) {
		t.Helper()
		b, e := settings.Encode(l)
		if e != api.OK || len(b) != 6*len(l) {
			t.Fatalf("%d pairs: %d bytes, %d", len(l), len(b), e)
		}
		if m := read(t, b); !slices.Equal(l, m) {
			t.Fatalf("%v came back as %v", l, m)
		}
	}
	back(nil)
	for id := range 1 << 16 {
		back(all(id, id*65537))
	}
	for bit := range 33 {
		for _, value := range []int{1<<bit - 2, 1<<bit - 1, 1 << bit, 1<<bit + 1} {
			if 0 <= value && value < 1<<32 {
				back(all(4, value, 65535, value))
			}
		}
	}
	r := rand.New(rand.NewSource(35))
	for range 20000 {
		back(somePairs(r))
	}
	for _, count := range []int{2730, 2731, 10923, 70000} {
		l := make([]payload.Pair, count)
		for i := range l {
			l[i] = somePair(r)
		}
		back(l)
	}
}

// P12.2, T1: bytes of pairs are those of what is read of them.
func TestBytesThereAndBack(t *testing.T) {
	r := rand.New(rand.NewSource(36))
	for count := range 300 {
		for range 20 {
			b := make([]byte, 6*count)
			r.Read(b)
			says(t, read(t, b), b...)
		}
	}
}

// P1: whatever there is, each call ends, and beside a fault, or an error, all else is
// as the chapter says.
func TestAnything(t *testing.T) {
	r := rand.New(rand.NewSource(37))
	numbers := []int{0, 1, 2, 3, 4, 5, 6, 7, -1, 65535, 65536, 16384, 1<<24 - 1, 1<<31 - 1, 1 << 31, 1<<32 - 1, 1 << 32, math.MaxInt, math.MaxInt - 1, math.MinInt, math.MinInt + 1}
	some := func() int { return numbers[r.Intn(len(numbers))] }
	for range 200000 {
		s := set([6]int{some(), some(), some(), some(), some(), some()})
		l := make([]payload.Pair, r.Intn(5))
		want, right := []byte{}, true
		for i := range l {
			l[i] = pair(some(), some())
			right = right && 0 <= l[i].ID && l[i].ID < 1<<16 && 0 <= l[i].Value && l[i].Value < 1<<32
			want = binary.BigEndian.AppendUint16(want, uint16(l[i].ID))
			want = binary.BigEndian.AppendUint32(want, uint32(l[i].Value))
		}
		if right {
			says(t, l, want...)
		} else {
			wrong(t, l)
		}
		// Windows that are far apart have a test of their own.
		far := func(p payload.Pair) bool { return p.Value < -1<<32 || p.Value > 1<<32 }
		if !slices.ContainsFunc(append(l, pair(4, s.Window)), far) {
			agrees(t, s, l)
		} else if made, by, code := settings.Apply(s, l); code != api.NoError && (made != s || by != 0) {
			t.Errorf("%v of %v: %v %d %d", l, s, made, by, code)
		}
	}
}

// P2: what was asked ahead makes no difference.
func TestAgain(t *testing.T) {
	type asked struct {
		s settings.Set
		l []payload.Pair
	}
	type told struct {
		made settings.Set
		by   int
		code api.Code
		b    string
		e    api.Errno
	}
	ask := func(x asked) told {
		var y told
		y.made, y.by, y.code = settings.Apply(x.s, x.l)
		b, e := settings.Encode(x.l)
		y.b, y.e = string(b), e
		return y
	}
	r := rand.New(rand.NewSource(38))
	var questions []asked
	var answers []told
	for range 3000 {
		x := asked{someSet(r), somePairs(r)}
		questions, answers = append(questions, x), append(answers, ask(x))
	}
	for range 9000 {
		i := r.Intn(len(questions))
		if y := ask(questions[i]); y != answers[i] {
			t.Errorf("%v: %v, but %v ahead", questions[i], y, answers[i])
		}
	}
}

// P2: what is handed in is not written into, what lies behind its length is neither
// read nor written, and two answers share no memory.
func TestMemory(t *testing.T) {
	r := rand.New(rand.NewSource(39))
	for range 20000 {
		s, l := someSet(r), somePairs(r)
		made, by, code := settings.Apply(s, l)
		b, _ := settings.Encode(l)
		for _, behind := range all(1, 9, 4, 1<<31, -1, -1) {
			memory := append(slices.Clone(l), behind, behind)
			was := slices.Clone(memory)
			again, more, also := settings.Apply(s, memory[:len(l)])
			c, e := settings.Encode(memory[:len(l)])
			if again != made || more != by || also != code || !bytes.Equal(b, c) || e != api.OK {
				t.Errorf("%v, with %v behind: %v %d %d %v %d", l, behind, again, more, also, c, e)
			}
			if !slices.Equal(memory, was) {
				t.Errorf("%v became %v", was, memory)
			}
			for i := range c[:cap(c)] {
				c[:cap(c)][i] = 99
			}
			says(t, l, b...)
		}
	}
}
