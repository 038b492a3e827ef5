package prefix_test

import (
	"bytes"
	"math"
	"slices"
	"testing"

	"gantlet/api"
	"gantlet/prefix"
)

// oddBits are prefixes that there are not.
var oddBits = []int{math.MinInt, -1 << 32, -64, -8, -1, 0, 9, 10, 16, 32, 63, 64, 65, 1 << 32, math.MaxInt}

// oddNumbers are numbers that there are not.
var oddNumbers = []int{math.MinInt, -1 << 32, -1 << 24, -256, -31, -2, -1, 1 << 24, 1<<24 + 1, 1<<24 + 255, 1 << 31, 1 << 32, math.MaxInt}

// laid is a number's bytes, worked out by division: so many groups as the
// number needs are counted first.
func laid(n, bits, above int) []byte {
	m := 1
	for range bits {
		m *= 2
	}
	m--
	if n < m {
		return []byte{byte(above + n)}
	}
	n -= m
	count := 1
	for p := 128; p <= n; p *= 128 {
		count++
	}
	b := []byte{byte(above + m)}
	for i := range count {
		group := n % 128
		n /= 128
		if i < count-1 {
			group += 128
		}
		b = append(b, byte(group))
	}
	return b
}

// read is what bytes begin with, by the document's words: the last byte is
// looked for first, and the number added up from there.
func read(b []byte, bits int) (int, int, api.Errno) {
	m := map[int]int{1: 1, 2: 3, 3: 7, 4: 15, 5: 31, 6: 63, 7: 127, 8: 255}[bits]
	if m == 0 {
		return 0, 0, api.ErrArg
	}
	if len(b) == 0 {
		return 0, 0, api.ErrMore
	}
	if first := int(b[0]) % (m + 1); first < m {
		return first, 1, api.OK
	}
	last := 1
	for last < len(b) && b[last] >= 128 {
		last++
	}
	if last > 4 {
		return 0, 0, api.ErrForm
	}
	if last == len(b) {
		return 0, 0, api.ErrMore
	}
	n := 0
	for i := last; i > 0; i-- {
		n = n*128 + int(b[i])%128
	}
	if n+m >= 1<<24 {
		return 0, 0, api.ErrForm
	}
	return n + m, last + 1, api.OK
}

// aboves are all that may stand above a prefix.
func aboves(bits int) []int {
	var l []int
	for above := 0; above < 256; above += 1 << bits {
		l = append(l, above)
	}
	return l
}

// numbers are such as there are, rising: those about each power of two, those
// about where a prefix needs one byte more, and others between.
func numbers(bits int) []int {
	var l []int
	add := func(n int) {
		if 0 <= n && n <= api.MaxInt {
			l = append(l, n)
		}
	}
	about := func(n int) {
		for d := -3; d <= 3; d++ {
			add(n + d)
		}
	}
	for n := range 1000 {
		add(n)
	}
	m := 1<<bits - 1
	for bit := range 25 {
		about(1 << bit)
		about(m + 1<<bit)
		for n := 1 << bit; n < 2<<bit; n += 1<<bit/61 + 1 {
			add(n)
		}
	}
	slices.Sort(l)
	return slices.Compact(l)
}

// decodes tells whether bytes are answered with just that.
func decodes(t *testing.T, b []byte, bits, n, count int, e api.Errno) {
	t.Helper()
	if n2, count2, e2 := prefix.Decode(b, bits); n2 != n || count2 != count || e2 != e {
		t.Errorf("Decode(%v, %d) is %d, %d, %d, not %d, %d, %d", b, bits, n2, count2, e2, n, count, e)
	}
}

// P3.1: a number's bytes, so few as can be, with what is above added to the
// first one.
func TestEncode(t *testing.T) {
	for i, x := range []struct {
		n, bits, above int
		want           []byte
	}{
		{1337, 5, 0, []byte{31, 154, 10}}, // the document's second example
		{10, 5, 0, []byte{10}},
		{10, 5, 224, []byte{234}},
		{30, 5, 96, []byte{126}},
		{31, 5, 0, []byte{31, 0}},
		{32, 5, 64, []byte{95, 1}},
		{158, 5, 0, []byte{31, 127}},
		{159, 5, 0, []byte{31, 128, 1}},
		{1337, 5, 128, []byte{159, 154, 10}},
		{0, 1, 0, []byte{0}},
		{0, 1, 254, []byte{254}},
		{1, 1, 0, []byte{1, 0}},
		{1, 1, 254, []byte{255, 0}},
		{2, 1, 2, []byte{3, 1}},
		{42, 8, 0, []byte{42}},
		{254, 8, 0, []byte{254}},
		{255, 8, 0, []byte{255, 0}},
		{256, 8, 0, []byte{255, 1}},
		{382, 8, 0, []byte{255, 127}},
		{383, 8, 0, []byte{255, 128, 1}},
		{126, 7, 128, []byte{254}},
		{127, 7, 128, []byte{255, 0}},
		{62, 6, 192, []byte{254}},
		{63, 6, 64, []byte{127, 0}},
		{14, 4, 16, []byte{30}},
		{15, 4, 16, []byte{31, 0}},
		{127 + 16383, 7, 0, []byte{127, 255, 127}},
		{127 + 16384, 7, 0, []byte{127, 128, 128, 1}},
		{127 + 1<<21 - 1, 7, 0, []byte{127, 255, 255, 127}},
		{127 + 1<<21, 7, 0, []byte{127, 128, 128, 128, 1}},
		{api.MaxInt, 8, 0, []byte{255, 128, 254, 255, 7}},
		{api.MaxInt, 5, 0, []byte{31, 224, 255, 255, 7}},
		{api.MaxInt, 1, 128, []byte{129, 254, 255, 255, 7}},
	} {
		if b, e := prefix.Encode(x.n, x.bits, x.above); e != api.OK || !bytes.Equal(b, x.want) {
			t.Errorf("%d: Encode(%d, %d, %d) is %v, %d, not %v", i, x.n, x.bits, x.above, b, e, x.want)
		}
	}
	for bits := 1; bits <= 8; bits++ {
		for _, above := range aboves(bits) {
			for _, n := range numbers(bits) {
				if b, e := prefix.Encode(n, bits, above); e != api.OK || !bytes.Equal(b, laid(n, bits, above)) {
					t.Fatalf("Encode(%d, %d, %d) is %v, %d", n, bits, above, b, e)
				}
			}
		}
	}
}

// P3.1: no number, no prefix, or no multiple above it.
func TestEncodeErrors(t *testing.T) {
	bad := func(n, bits, above int) {
		t.Helper()
		if b, e := prefix.Encode(n, bits, above); e != api.ErrArg || len(b) != 0 {
			t.Errorf("Encode(%d, %d, %d) is %v, %d", n, bits, above, b, e)
		}
	}
	for _, bits := range oddBits {
		for _, n := range []int{-1, 0, 1, 255, api.MaxInt, 1 << 24} {
			for _, above := range []int{-256, -1, 0, 1, 128, 255, 256, 512} {
				bad(n, bits, above)
			}
		}
	}
	for bits := 1; bits <= 8; bits++ {
		for _, n := range oddNumbers {
			for _, above := range aboves(bits) {
				bad(n, bits, above)
			}
		}
		for _, n := range []int{0, 1, 1<<bits - 2, 1<<bits - 1, 1 << bits, api.MaxInt} {
			for above := -1100; above <= 1100; above++ {
				if above < 0 || above > 255 || above%(1<<bits) != 0 {
					bad(n, bits, above)
				}
			}
			for _, above := range []int{math.MinInt, -1 << 32, 1 << 16, 1 << 32, 1 << 62, math.MaxInt} {
				bad(n, bits, above)
			}
		}
	}
}

// P3.1: the number that bytes begin with, and how many bytes it has.
func TestDecode(t *testing.T) {
	for _, x := range []struct {
		b              []byte
		bits, n, count int
	}{
		{[]byte{31, 154, 10}, 5, 1337, 3},
		{[]byte{31, 154, 10, 255, 255}, 5, 1337, 3},
		{[]byte{10}, 5, 10, 1},
		{[]byte{234, 9}, 5, 10, 1},
		{[]byte{30, 255}, 5, 30, 1},
		{[]byte{31, 0}, 5, 31, 2},
		{[]byte{255, 0, 1}, 5, 31, 2},
		{[]byte{255, 127, 1}, 5, 158, 2},
		{[]byte{31, 128, 1}, 5, 159, 3},
		{[]byte{254}, 1, 0, 1},
		{[]byte{255, 0}, 1, 1, 2},
		{[]byte{42}, 8, 42, 1},
		{[]byte{254}, 8, 254, 1},
		{[]byte{255, 0}, 8, 255, 2},
		{[]byte{128, 200}, 7, 0, 1},
		{[]byte{127, 255, 255, 127, 5}, 7, 127 + 1<<21 - 1, 4},
		{[]byte{127, 128, 128, 128, 1, 5}, 7, 127 + 1<<21, 5},
		{[]byte{255, 128, 254, 255, 7}, 8, api.MaxInt, 5},
		{[]byte{255, 128, 254, 255, 7, 128}, 8, api.MaxInt, 5},
	} {
		decodes(t, x.b, x.bits, x.n, x.count, api.OK)
	}
}

// P3.1: whatever stands above the prefix is not looked at.
func TestAbove(t *testing.T) {
	for bits := 1; bits <= 8; bits++ {
		for first := range 256 {
			below := first % (1 << bits)
			if below < 1<<bits-1 {
				decodes(t, []byte{byte(first)}, bits, below, 1, api.OK)
				decodes(t, []byte{byte(first), 255, 255, 255, 255, 255}, bits, below, 1, api.OK)
				continue
			}
			decodes(t, []byte{byte(first)}, bits, 0, 0, api.ErrMore)
			decodes(t, []byte{byte(first), 5}, bits, below+5, 2, api.OK)
			decodes(t, []byte{byte(first), 133, 1}, bits, below+133, 3, api.OK)
			decodes(t, []byte{byte(first), 128, 128, 128, 128}, bits, 0, 0, api.ErrForm)
		}
	}
}

// P3.1: needless bytes, up to five in all.
func TestNeedless(t *testing.T) {
	for bits := 1; bits <= 8; bits++ {
		m := 1<<bits - 1
		for _, x := range []struct {
			b        []byte
			n, count int
		}{
			{[]byte{255, 0}, m, 2},
			{[]byte{255, 128, 0}, m, 3},
			{[]byte{255, 128, 128, 0}, m, 4},
			{[]byte{255, 128, 128, 128, 0}, m, 5},
			{[]byte{255, 133, 0}, m + 5, 3},
			{[]byte{255, 133, 128, 0}, m + 5, 4},
			{[]byte{255, 133, 128, 128, 0}, m + 5, 5},
			{[]byte{255, 133, 129, 128, 0}, m + 133, 5},
			{[]byte{255, 255, 255, 255, 0}, m + 1<<21 - 1, 5},
		} {
			decodes(t, x.b, bits, x.n, x.count, api.OK)
			decodes(t, append(x.b[:len(x.b):len(x.b)], 128, 255), bits, x.n, x.count, api.OK)
			decodes(t, x.b[:len(x.b)-1], bits, 0, 0, api.ErrMore)
		}
	}
}

// P3.1: no prefix comes ahead of all else; bytes that end too soon; a number
// that is too great, or has more than five bytes.
func TestDecodeErrors(t *testing.T) {
	for _, bits := range oddBits {
		for _, b := range [][]byte{nil, {}, {0}, {1}, {255}, {255, 0}, {255, 128, 128, 128, 128}, {255, 255, 255, 255, 255, 255}} {
			decodes(t, b, bits, 0, 0, api.ErrArg)
		}
	}
	for bits := 1; bits <= 8; bits++ {
		for _, b := range [][]byte{nil, {}, {255}, {255, 128}, {255, 255}, {255, 128, 255}, {255, 255, 255, 255}, {255, 128, 128, 128}} {
			decodes(t, b, bits, 0, 0, api.ErrMore)
		}
		for _, b := range [][]byte{
			{255, 128, 128, 128, 128}, {255, 128, 128, 128, 128, 0}, {255, 128, 128, 128, 128, 128}, // more bytes, there or not
			{255, 255, 255, 255, 255}, {255, 255, 255, 255, 135, 0}, {255, 128, 128, 128, 136}, // and too great as well
			{255, 128, 128, 128, 8}, {255, 255, 255, 255, 7}, {255, 255, 255, 255, 127}, {255, 128, 128, 128, 127, 9}, // too great alone
			{255, 255, 255, 255, 255, 255, 255, 255, 255, 127},
		} {
			decodes(t, b, bits, 0, 0, api.ErrForm)
		}
		decodes(t, []byte{255, 255, 255, 255, 6}, bits, 1<<bits-1+7<<21-1, 5, api.OK)
	}
}

// P3.1: the greatest number, and the one above it, for each prefix.
func TestGreatest(t *testing.T) {
	for bits := 1; bits <= 8; bits++ {
		b := laid(api.MaxInt, bits, 0)
		over := laid(api.MaxInt+1, bits, 0)
		if len(b) != 5 || len(over) != 5 {
			t.Fatalf("prefix %d: %v, %v", bits, b, over)
		}
		decodes(t, b, bits, api.MaxInt, 5, api.OK)
		decodes(t, over, bits, 0, 0, api.ErrForm)
		decodes(t, append(over, 0), bits, 0, 0, api.ErrForm)
		decodes(t, over[:4], bits, 0, 0, api.ErrMore)
	}
}

// P3.1: all of what one and two bytes are, and much of what more are.
func TestDecodeAll(t *testing.T) {
	some := []byte{0, 1, 6, 7, 8, 127, 128, 129, 134, 135, 136, 254, 255}
	for bits := -1; bits <= 10; bits++ {
		check := func(b ...byte) {
			n, count, e := read(b, bits)
			decodes(t, b, bits, n, count, e)
		}
		for i := range 256 {
			check(byte(i))
			for j := range 256 {
				check(byte(i), byte(j))
				check(byte(i), byte(j), 128)
				check(255, byte(i), byte(j))
				check(255, 254, byte(i), byte(j))
				check(255, 254, 255, byte(i), byte(j))
			}
		}
		for _, i := range some {
			for _, j := range some {
				for _, k := range some {
					for _, l := range some {
						check(255, i, j, k, l)
						check(255, i, j, k, l, 0)
						check(255, i, j, k, l, 128)
					}
				}
			}
		}
	}
}

// P3.2, T1: a number is the one that its bytes begin with, whatever is behind
// them, and stands above the prefix; cut short, they end too soon.
func TestNumbersThereAndBack(t *testing.T) {
	behind := [][]byte{nil, {0}, {128}, {255, 255, 255, 255, 255, 255}, {31, 154, 10}}
	for bits := 1; bits <= 8; bits++ {
		for _, above := range aboves(bits) {
			for _, n := range numbers(bits) {
				b, e := prefix.Encode(n, bits, above)
				if e != api.OK || len(b) == 0 || int(b[0])>>bits<<bits != above {
					t.Fatalf("Encode(%d, %d, %d) is %v, %d", n, bits, above, b, e)
				}
				for _, x := range behind {
					c := append(b[:len(b):len(b)], x...)
					if m, count, e := prefix.Decode(c, bits); m != n || count != len(b) || e != api.OK {
						t.Fatalf("%d comes back from %v, prefix %d, as %d, %d, %d", n, c, bits, m, count, e)
					}
				}
				for cut := range b {
					if m, count, e := prefix.Decode(b[:cut], bits); m != 0 || count != 0 || e != api.ErrMore {
						t.Fatalf("Decode(%v, %d), cut from %v, is %d, %d, %d", b[:cut], bits, b, m, count, e)
					}
				}
			}
		}
	}
}

// P3.2, T1: all numbers there are, for one prefix.
func TestEveryNumber(t *testing.T) {
	for n := range api.MaxInt + 1 {
		b, e := prefix.Encode(n, 5, 64)
		if e != api.OK {
			t.Fatalf("Encode(%d, 5, 64) is %v, %d", n, b, e)
		}
		if m, count, e := prefix.Decode(b, 5); m != n || count != len(b) || e != api.OK {
			t.Fatalf("%d comes back from %v as %d, %d, %d", n, b, m, count, e)
		}
	}
}

// P3.2: no bytes of a number are those of another one, nor the beginning of
// such. Bytes that begin others stand right ahead of some of these, once sorted.
func TestNoBeginning(t *testing.T) {
	for bits := 1; bits <= 8; bits++ {
		for _, above := range aboves(bits) {
			var all [][]byte
			for _, n := range numbers(bits) {
				b, _ := prefix.Encode(n, bits, above)
				all = append(all, b)
			}
			slices.SortFunc(all, bytes.Compare)
			for i := range len(all) - 1 {
				if bytes.HasPrefix(all[i+1], all[i]) {
					t.Fatalf("prefix %d: %v begins %v", bits, all[i], all[i+1])
				}
			}
		}
	}
}

// P1: every call ends, and none panics, at all arguments; and beside an error
// all else is zero.
func TestNoPanic(t *testing.T) {
	var odd []int
	for bit := range 64 {
		odd = append(odd, 1<<bit-1, 1<<bit, 1<<bit+1, -1<<bit, -1<<bit+1, -1<<bit-1)
	}
	for _, bits := range append([]int{3, 5, 6, 7}, odd...) {
		for _, n := range odd {
			for _, above := range odd {
				b, e := prefix.Encode(n, bits, above)
				right := 0 <= n && n <= api.MaxInt && 1 <= bits && bits <= 8 && 0 <= above && above <= 255 && above>>bits<<bits == above
				if right != (e == api.OK) || right != (len(b) > 0) || !right && e != api.ErrArg {
					t.Fatalf("Encode(%d, %d, %d) is %v, %d", n, bits, above, b, e)
				}
			}
		}
		for _, fill := range []byte{0, 1, 127, 128, 255} {
			for count := range 20 {
				b := bytes.Repeat([]byte{fill}, count)
				n, at, e := prefix.Decode(b, bits)
				n2, at2, e2 := read(b, bits)
				if n != n2 || at != at2 || e != e2 {
					t.Fatalf("Decode(%v, %d) is %d, %d, %d", b, bits, n, at, e)
				}
			}
		}
	}
	long := bytes.Repeat([]byte{255}, 1<<20)
	decodes(t, long, 5, 0, 0, api.ErrForm)
}

// P2: the same arguments are answered alike, whatever was asked between.
func TestSameAgain(t *testing.T) {
	type told struct {
		bytes          string
		n, count       int
		onPut, onCount api.Errno
	}
	var first []told
	for round := range 3 {
		i := 0
		for bits := 0; bits <= 9; bits++ {
			for _, n := range []int{-1, 0, 30, 31, 1337, api.MaxInt, 1 << 24} {
				for _, above := range []int{0, 1, 32, 128, 256} {
					b, e := prefix.Encode(n, bits, above)
					x := told{bytes: string(b), onPut: e}
					x.n, x.count, x.onCount = prefix.Decode([]byte{byte(above), 128 + byte(n), 3, 255}, bits)
					if round == 0 {
						first = append(first, x)
					} else if first[i] != x {
						t.Fatalf("%d, %d, %d: first %v, then %v", n, bits, above, first[i], x)
					}
					i++
				}
			}
		}
	}
}

// P2: what is handed in is not written into; what lies behind a list's length
// is neither read nor written.
func TestArgumentsStay(t *testing.T) {
	for _, fill := range []byte{0, 1, 128, 255} {
		for bits := 0; bits <= 9; bits++ {
			for count := range 6 {
				b := append([]byte{255, 128, 255, 129, 3}[:count:count], bytes.Repeat([]byte{fill}, 8)...)
				was := bytes.Clone(b)
				n, at, e := prefix.Decode(b[:count], bits)
				if !bytes.Equal(b, was) {
					t.Fatalf("%v became %v", was, b)
				}
				decodes(t, bytes.Clone(b[:count])[:count:count], bits, n, at, e)
			}
		}
	}
}

// P2: what is answered is new memory: no other answer changes with it.
func TestNewMemory(t *testing.T) {
	for _, n := range []int{3, 31, 1337, api.MaxInt} {
		want := laid(n, 5, 32)
		b, _ := prefix.Encode(n, 5, 32)
		other, _ := prefix.Encode(n, 5, 32)
		all := b[:cap(b)]
		for i := range all {
			all[i] = 100
		}
		again, _ := prefix.Encode(n, 5, 32)
		if !bytes.Equal(other, want) || !bytes.Equal(again, want) {
			t.Errorf("the bytes of %d share memory: %v, %v", n, other, again)
		}
	}
}
