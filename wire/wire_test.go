package wire_test

import (
	"bytes"
	"encoding/binary"
	"math"
	"testing"

	"gantlet/api"
	"gantlet/wire"
)

// odd are sizes that there are not.
var odd = []int{math.MinInt, -1 << 32, -8, -4, -1, 0, 5, 6, 8, 64, 1 << 32, math.MaxInt}

// greatest is the greatest number that fits.
func greatest(size int) int { return 1<<(8*size) - 1 }

// laid is a number's bytes, as the library lays them.
func laid(n, size int) []byte {
	b := binary.BigEndian.AppendUint64(nil, uint64(n))
	return b[8-size:]
}

// numbers are such as fit: all of the sizes 1 and 2, and of others those about
// each power of two, and a number a step between; they rise.
func numbers(size int) []int {
	var l []int
	if size <= 2 {
		for n := range greatest(size) + 1 {
			l = append(l, n)
		}
		return l
	}
	add := func(n int) {
		if n <= greatest(size) && (len(l) == 0 || n > l[len(l)-1]) {
			l = append(l, n)
		}
	}
	for bit := range 8*size + 1 {
		p := 1 << bit
		for n := p - 2; n <= p+2; n++ {
			if n >= 0 {
				add(n)
			}
		}
		for n := p; n < 2*p; n += p/97 + 1 {
			add(n)
		}
	}
	return l
}

// P1.1: a number's bytes, the highest one first.
func TestPut(t *testing.T) {
	for i, x := range []struct {
		n, size int
		want    []byte
	}{
		{258, 3, []byte{0, 1, 2}}, // the document's first example
		{258, 2, []byte{1, 2}},
		{258, 4, []byte{0, 0, 1, 2}},
		{0, 1, []byte{0}},
		{0, 4, []byte{0, 0, 0, 0}},
		{1, 1, []byte{1}},
		{128, 1, []byte{128}},
		{255, 1, []byte{255}},
		{256, 2, []byte{1, 0}},
		{65535, 2, []byte{255, 255}},
		{65536, 3, []byte{1, 0, 0}},
		{1<<24 - 1, 3, []byte{255, 255, 255}},
		{1 << 24, 4, []byte{1, 0, 0, 0}},
		{1<<31 - 1, 4, []byte{127, 255, 255, 255}},
		{1 << 31, 4, []byte{128, 0, 0, 0}},
		{0x01020304, 4, []byte{1, 2, 3, 4}},
		{0xfffefdfc, 4, []byte{255, 254, 253, 252}},
		{1<<32 - 1, 4, []byte{255, 255, 255, 255}},
	} {
		if b, e := wire.Put(x.n, x.size); e != api.OK || !bytes.Equal(b, x.want) {
			t.Errorf("%d: Put(%d, %d) is %v, %d, not %v", i, x.n, x.size, b, e, x.want)
		}
	}
	for size := 1; size <= 4; size++ {
		for _, n := range numbers(size) {
			if b, e := wire.Put(n, size); e != api.OK || !bytes.Equal(b, laid(n, size)) {
				t.Fatalf("Put(%d, %d) is %v, %d", n, size, b, e)
			}
		}
	}
}

// P1.1: no size, or a number that doesn't fit.
func TestPutErrors(t *testing.T) {
	bad := func(n, size int) {
		if b, e := wire.Put(n, size); e != api.ErrArg || len(b) != 0 {
			t.Errorf("Put(%d, %d) is %v, %d", n, size, b, e)
		}
	}
	for _, size := range odd {
		for _, n := range []int{math.MinInt, -1, 0, 1, 255, 1 << 32, math.MaxInt} {
			bad(n, size)
		}
	}
	for size := 1; size <= 4; size++ {
		over := greatest(size) + 1
		for _, n := range []int{-1, -2, -255, -256, -over, -over - 1, math.MinInt, over, over + 1, 2 * over, 256 * over, 1 << 40, 1 << 62, math.MaxInt} {
			bad(n, size)
		}
	}
}

// P1.1: the number whose bytes these are.
func TestGet(t *testing.T) {
	for i, x := range []struct {
		b    []byte
		want int
	}{
		{[]byte{0}, 0},
		{[]byte{255}, 255},
		{[]byte{0, 7}, 7},
		{[]byte{7, 0}, 1792},
		{[]byte{0, 1, 2}, 258},
		{[]byte{255, 255, 255}, 1<<24 - 1},
		{[]byte{1, 2, 3, 4}, 0x01020304},
		{[]byte{0, 0, 0, 0}, 0},
		{[]byte{128, 0, 0, 0}, 1 << 31},
		{[]byte{255, 255, 255, 255}, 1<<32 - 1},
	} {
		if n, e := wire.Get(x.b); n != x.want || e != api.OK {
			t.Errorf("%d: Get(%v) is %d, %d, not %d", i, x.b, n, e, x.want)
		}
	}
}

// P1.1: not 1 to 4 bytes.
func TestGetErrors(t *testing.T) {
	for _, b := range [][]byte{nil, {}, {0, 0, 0, 0, 0}, {1, 2, 3, 4, 5}, make([]byte, 8), bytes.Repeat([]byte{255}, 256), make([]byte, 65540)} {
		if n, e := wire.Get(b); n != 0 || e != api.ErrArg {
			t.Errorf("Get of %d bytes is %d, %d", len(b), n, e)
		}
	}
}

// P1.1: the number of the first bytes, and what is behind them, of any length.
func TestCut(t *testing.T) {
	for i, x := range []struct {
		b    []byte
		size int
		n    int
		rest []byte
	}{
		{[]byte{0, 1, 2, 9, 8}, 3, 258, []byte{9, 8}},
		{[]byte{0, 1, 2}, 3, 258, nil},
		{[]byte{5}, 1, 5, nil},
		{[]byte{5, 6}, 1, 5, []byte{6}},
		{[]byte{255, 254, 253}, 2, 65534, []byte{253}},
		{[]byte{255, 255, 255, 255}, 4, 1<<32 - 1, nil},
		{[]byte{128, 0, 0, 0, 0}, 4, 1 << 31, []byte{0}},
		{[]byte{1, 2, 3, 4, 5, 6, 7, 8, 9}, 4, 0x01020304, []byte{5, 6, 7, 8, 9}},
	} {
		if n, rest, e := wire.Cut(x.b, x.size); n != x.n || !bytes.Equal(rest, x.rest) || e != api.OK {
			t.Errorf("%d: Cut(%v, %d) is %d, %v, %d", i, x.b, x.size, n, rest, e)
		}
	}
	long := make([]byte, 70000)
	for i := range long {
		long[i] = byte(i * 7)
	}
	for size := 1; size <= 4; size++ {
		for _, count := range []int{size, size + 1, 255, 256, 257, 16384, 65536, 70000} {
			b := long[:count]
			n, rest, e := wire.Cut(b, size)
			if e != api.OK || !bytes.Equal(laid(n, size), b[:size]) || !bytes.Equal(rest, b[size:]) {
				t.Errorf("Cut of %d bytes at %d is %d, %d bytes, %d", count, size, n, len(rest), e)
			}
		}
	}
}

// P1.1: no size comes ahead of fewer bytes.
func TestCutErrors(t *testing.T) {
	bad := func(b []byte, size int, want api.Errno) {
		if n, rest, e := wire.Cut(b, size); n != 0 || len(rest) != 0 || e != want {
			t.Errorf("Cut(%v, %d) is %d, %v, %d, not %d", b, size, n, rest, e, want)
		}
	}
	full := []byte{1, 2, 3, 4, 5, 6, 7, 8}
	for _, size := range odd {
		for count := range len(full) + 1 {
			bad(full[:count], size, api.ErrArg)
		}
		bad(nil, size, api.ErrArg)
	}
	for size := 1; size <= 4; size++ {
		for count := range size {
			bad(full[:count], size, api.ErrMore)
			bad(full[:count:count], size, api.ErrMore)
		}
		bad(nil, size, api.ErrMore)
	}
}

// P1.2, T1: a number that fits is that of its bytes, whatever is behind them.
func TestNumbersThereAndBack(t *testing.T) {
	for size := 1; size <= 4; size++ {
		for _, n := range numbers(size) {
			b, e := wire.Put(n, size)
			if len(b) != size || e != api.OK {
				t.Fatalf("Put(%d, %d) is %v, %d", n, size, b, e)
			}
			if m, e := wire.Get(b); m != n || e != api.OK {
				t.Fatalf("%d, in %d bytes %v, comes back as %d, %d", n, size, b, m, e)
			}
			if m, rest, e := wire.Cut(append(b, 200, 1), size); m != n || !bytes.Equal(rest, []byte{200, 1}) || e != api.OK {
				t.Fatalf("%d, in %d bytes, is cut as %d, %v, %d", n, size, m, rest, e)
			}
		}
	}
}

// P1.2, T1: 1 to 4 bytes are those of their number.
func TestBytesThereAndBack(t *testing.T) {
	back := func(b ...byte) {
		n, e := wire.Get(b)
		if e != api.OK {
			t.Fatalf("Get(%v) is %d, %d", b, n, e)
		}
		if c, e := wire.Put(n, len(b)); e != api.OK || !bytes.Equal(c, b) {
			t.Fatalf("%v is %d, whose bytes are %v, %d", b, n, c, e)
		}
	}
	some := []byte{0, 1, 2, 127, 128, 129, 254, 255}
	for i := range 256 {
		back(byte(i))
		for j := range 256 {
			back(byte(i), byte(j))
		}
		for _, j := range some {
			for _, k := range some {
				back(byte(i), j, k)
				back(j, byte(i), k)
				back(j, k, byte(i))
				for _, l := range some {
					back(byte(i), j, k, l)
					back(j, byte(i), k, l)
					back(j, k, byte(i), l)
					back(j, k, l, byte(i))
				}
			}
		}
	}
}

// P1.2: a greater number has greater bytes.
func TestGreater(t *testing.T) {
	for size := 1; size <= 4; size++ {
		last, least := []byte(nil), -1
		for _, n := range numbers(size) {
			b, _ := wire.Put(n, size)
			if bytes.Compare(last, b) >= 0 {
				t.Fatalf("%d has %v, but %d, which is greater, %v", least, last, n, b)
			}
			last, least = b, n
		}
	}
}

// P1: every call ends, and none panics, at all arguments; and beside an error
// all else is zero.
func TestNoPanic(t *testing.T) {
	sizes := append([]int{1, 2, 3, 4}, odd...)
	for _, size := range sizes {
		for bit := range 64 {
			for _, n := range []int{1<<bit - 1, 1 << bit, 1<<bit + 1, -1 << bit, -1<<bit + 1} {
				b, e := wire.Put(n, size)
				right := 1 <= size && size <= 4 && n >= 0 && n <= greatest(size)
				if right != (e == api.OK) || right != (len(b) > 0) || !right && e != api.ErrArg {
					t.Fatalf("Put(%d, %d) is %v, %d", n, size, b, e)
				}
			}
		}
		for count := range 12 {
			n, rest, e := wire.Cut(make([]byte, count), size)
			if n != 0 || e != api.OK && len(rest) != 0 {
				t.Fatalf("Cut of %d bytes at %d is %d, %v, %d", count, size, n, rest, e)
			}
		}
	}
	for count := range 300 {
		if n, e := wire.Get(make([]byte, count)); n != 0 || (e == api.OK) != (1 <= count && count <= 4) {
			t.Fatalf("Get of %d bytes is %d, %d", count, n, e)
		}
	}
}

// P2: the same arguments are answered alike, whatever was asked between.
func TestSameAgain(t *testing.T) {
	type told struct {
		put, rest           string
		get, cut            int
		onPut, onGet, onCut api.Errno
	}
	ask := func(n, size int, b []byte) told {
		var x told
		put, e := wire.Put(n, size)
		x.put, x.onPut = string(put), e
		x.get, x.onGet = wire.Get(b)
		cut, rest, e := wire.Cut(b, size)
		x.cut, x.rest, x.onCut = cut, string(rest), e
		return x
	}
	var first []told
	for round := range 3 {
		i := 0
		for size := -1; size <= 6; size++ {
			for count := range 7 {
				for _, n := range []int{-1, 0, 258, 70000, 1<<32 - 1, 1 << 32} {
					x := ask(n, size, []byte{9, 8, 7, 6, 5, 4, 3}[:count])
					if round == 0 {
						first = append(first, x)
					} else if first[i] != x {
						t.Fatalf("size %d, %d bytes, number %d: first %v, then %v", size, count, n, first[i], x)
					}
					i++
				}
			}
		}
	}
}

// P2: what is handed in is not written into; what lies behind a list's length
// is neither read nor written.
func TestArgumentsStay(t *testing.T) {
	for _, fill := range []byte{0, 1, 255} {
		for count := range 7 {
			for size := 0; size <= 5; size++ {
				b := append([]byte{11, 22, 33, 44, 55, 66}[:count:count], bytes.Repeat([]byte{fill}, 8)...)
				was := bytes.Clone(b)
				n, e := wire.Get(b[:count])
				m, rest, f := wire.Cut(b[:count], size)
				if !bytes.Equal(b, was) {
					t.Fatalf("%v became %v", was, b)
				}
				tight := bytes.Clone(b[:count])
				n2, e2 := wire.Get(tight[:count:count])
				m2, rest2, f2 := wire.Cut(tight[:count:count], size)
				if n != n2 || e != e2 || m != m2 || f != f2 || !bytes.Equal(rest, rest2) {
					t.Fatalf("with %d behind %d bytes: %d %d %d %v %d, else %d %d %d %v %d", fill, count, n, e, m, rest, f, n2, e2, m2, rest2, f2)
				}
			}
		}
	}
}

// P2: what is answered is new memory: neither an argument nor another answer
// changes with it.
func TestNewMemory(t *testing.T) {
	b := []byte{0, 1, 2, 9, 8, 7}
	_, rest, _ := wire.Cut(b, 3)
	_, other, _ := wire.Cut(b, 3)
	all := rest[:cap(rest)]
	for i := range all {
		all[i] = 100
	}
	if !bytes.Equal(b, []byte{0, 1, 2, 9, 8, 7}) {
		t.Errorf("what is behind shares memory with the argument: %v", b)
	}
	if !bytes.Equal(other, []byte{9, 8, 7}) {
		t.Errorf("what is behind shares memory with another answer: %v", other)
	}
	for i := range b {
		b[i] = 50
	}
	if !bytes.Equal(other, []byte{9, 8, 7}) {
		t.Errorf("what is behind is kept from the argument: %v", other)
	}
	x, _ := wire.Put(258, 3)
	y, _ := wire.Put(258, 3)
	all = x[:cap(x)]
	for i := range all {
		all[i] = 100
	}
	if z, _ := wire.Put(258, 3); !bytes.Equal(y, []byte{0, 1, 2}) || !bytes.Equal(z, []byte{0, 1, 2}) {
		t.Errorf("a number's bytes share memory: %v, %v", y, z)
	}
}
