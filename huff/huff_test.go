package huff_test

import (
	"bytes"
	"math"
	"math/rand"
	"slices"
	"strconv"
	"strings"
	"testing"

	"gantlet/api"
	"gantlet/huff"
)

// end is what stands behind all bytes in what has a code.
const end = 256

// sizes are the document's lengths, and the end's behind them.
var sizes = [257]int{
	13, 23, 28, 28, 28, 28, 28, 28, 28, 24, 30, 28, 28, 30, 28, 28,
	28, 28, 28, 28, 28, 28, 30, 28, 28, 28, 28, 28, 28, 28, 28, 28,
	6, 10, 10, 12, 13, 6, 8, 11, 10, 10, 8, 11, 8, 6, 6, 6,
	5, 5, 5, 6, 6, 6, 6, 6, 6, 6, 7, 8, 15, 6, 12, 10,
	13, 6, 7, 7, 7, 7, 7, 7, 7, 7, 7, 7, 7, 7, 7, 7,
	7, 7, 7, 7, 7, 7, 7, 7, 8, 7, 8, 13, 19, 13, 14, 6,
	15, 5, 6, 5, 6, 5, 6, 6, 6, 5, 7, 7, 6, 6, 6, 5,
	6, 7, 6, 5, 5, 6, 7, 7, 7, 7, 7, 15, 11, 14, 13, 28,
	20, 22, 20, 20, 22, 22, 22, 23, 22, 23, 23, 23, 23, 23, 24, 23,
	24, 24, 22, 23, 24, 23, 23, 23, 23, 21, 22, 23, 22, 23, 23, 24,
	22, 21, 20, 22, 22, 23, 23, 21, 23, 22, 22, 24, 21, 22, 23, 23,
	21, 21, 22, 21, 23, 22, 23, 23, 20, 22, 22, 22, 23, 22, 22, 23,
	26, 26, 20, 19, 22, 23, 22, 25, 26, 26, 26, 27, 27, 26, 24, 25,
	19, 21, 26, 27, 27, 26, 27, 24, 21, 21, 26, 26, 28, 27, 27, 27,
	20, 24, 20, 21, 22, 21, 21, 23, 22, 22, 25, 25, 24, 24, 26, 23,
	26, 27, 26, 26, 27, 27, 27, 27, 27, 28, 27, 27, 27, 27, 27, 26,
	30,
}

// spelt are the codes in figures, worked out by how much room those ahead of
// each one take up.
var spelt = func() [257]string {
	var order [257]int
	for c := range order {
		order[c] = c
	}
	slices.SortStableFunc(order[:], func(a, b int) int { return sizes[a] - sizes[b] })
	var all [257]string
	room := 0
	for _, c := range order {
		figures := strconv.FormatInt(int64(1<<30+room), 2)[1:]
		all[c] = figures[:sizes[c]]
		room += 1 << (30 - sizes[c])
	}
	return all
}()

// meant is what codes are of, by their figures.
var meant = func() map[string]int {
	all := map[string]int{}
	for c, s := range spelt {
		all[s] = c
	}
	return all
}()

// packed is the bytes whose bits are these figures, with 1s behind.
func packed(figures string) []byte {
	figures += strings.Repeat("1", (8-len(figures)%8)%8)
	b := make([]byte, len(figures)/8)
	for i := range b {
		n, _ := strconv.ParseUint(figures[8*i:8*i+8], 2, 8)
		b[i] = byte(n)
	}
	return b
}

// laid is a text's bytes, by its figures.
func laid(text []byte) []byte {
	var figures strings.Builder
	for _, c := range text {
		figures.WriteString(spelt[c])
	}
	return packed(figures.String())
}

// read is what bytes are the text of, by their figures.
func read(b []byte, most int) ([]byte, api.Errno) {
	var figures strings.Builder
	for _, x := range b {
		figures.WriteString(strconv.FormatInt(256+int64(x), 2)[1:])
	}
	left := figures.String()
	var text []byte
	for size := 1; size <= len(left); size++ {
		c, ok := meant[left[:size]]
		if !ok {
			continue
		}
		if c == end {
			return nil, api.ErrForm
		}
		if len(text)+1 > max(most, 0) {
			return nil, api.ErrFull
		}
		text = append(text, byte(c))
		left, size = left[size:], 0
	}
	if len(left) > 7 || strings.Contains(left, "0") {
		return nil, api.ErrForm
	}
	return text, api.OK
}

// decodes tells whether bytes are answered with just that.
func decodes(t *testing.T, b []byte, most int, want []byte, errno api.Errno) {
	t.Helper()
	if text, e := huff.Decode(b, most); e != errno || !bytes.Equal(text, want) {
		t.Errorf("Decode(%x, %d) is %q, %d, not %q, %d", b, most, text, e, want, errno)
	}
}

// every is the text of all bytes there are, rising.
func every() []byte {
	b := make([]byte, 256)
	for i := range b {
		b[i] = byte(i)
	}
	return b
}

// texts are such as there may be: none, each byte alone, all, and others, of
// short codes and of long ones.
func texts() [][]byte {
	r := rand.New(rand.NewSource(4))
	l := [][]byte{nil, {}, every(), []byte("www.example.com"), []byte("no-cache"), bytes.Repeat([]byte{10}, 9)}
	for c := range 256 {
		for n := range 9 {
			l = append(l, bytes.Repeat([]byte{byte(c)}, n+1))
		}
	}
	for range 300 {
		b := make([]byte, r.Intn(60))
		r.Read(b)
		l = append(l, b)
		c := bytes.Clone(b)
		for i := range c {
			c[i] = 32 + c[i]%95
		}
		l = append(l, c)
	}
	return l
}

// odd are what no code is of.
var odd = []int{math.MinInt, -1 << 32, -1 << 31, -257, -256, -3, -2, -1, 257, 258, 259, 511, 512, 1 << 16, 1 << 31, 1 << 32, 1<<32 + 97, 1 << 62, math.MaxInt}

// P4.1: the length of each code, and the code; 0, if there is none.
func TestCodes(t *testing.T) {
	for c, s := range spelt {
		n, _ := strconv.ParseInt(s, 2, 64)
		if huff.Length(c) != sizes[c] || huff.Code(c) != int(n) {
			t.Errorf("%d: %d bits, %x; not %d, %x", c, huff.Length(c), huff.Code(c), sizes[c], n)
		}
	}
	for _, x := range []struct{ c, length, code int }{
		{'0', 5, 0}, {'1', 5, 1}, {'2', 5, 2}, {'a', 5, 3}, {'t', 5, 9}, {' ', 6, 0x14}, {'%', 6, 0x15}, {'u', 6, 0x2d},
		{':', 7, 0x5c}, {'z', 7, 0x7b}, {'&', 8, 0xf8}, {'Z', 8, 0xfd}, {'!', 10, 0x3f8}, {'?', 10, 0x3fc}, {'\'', 11, 0x7fa}, {'|', 11, 0x7fc},
		{'#', 12, 0xffa}, {'>', 12, 0xffb}, {0, 13, 0x1ff8}, {'~', 13, 0x1ffd}, {'^', 14, 0x3ffc}, {'}', 14, 0x3ffd}, {'<', 15, 0x7ffc}, {'{', 15, 0x7ffe},
		{'\\', 19, 0x7fff0}, {208, 19, 0x7fff2}, {128, 20, 0xfffe6}, {224, 20, 0xfffec}, {199, 25, 0x1ffffec}, {192, 26, 0x3ffffe0}, {255, 26, 0x3ffffee},
		{203, 27, 0x7ffffde}, {2, 28, 0xfffffe2}, {249, 28, 0xffffffe}, {10, 30, 0x3ffffffc}, {13, 30, 0x3ffffffd}, {22, 30, 0x3ffffffe}, {end, 30, 1<<30 - 1},
	} {
		if huff.Length(x.c) != x.length || huff.Code(x.c) != x.code {
			t.Errorf("%d: %d bits, %x; not %d, %x", x.c, huff.Length(x.c), huff.Code(x.c), x.length, x.code)
		}
	}
	for _, c := range odd {
		if huff.Length(c) != 0 || huff.Code(c) != 0 {
			t.Errorf("%d: %d bits, %x", c, huff.Length(c), huff.Code(c))
		}
	}
}

// known are texts whose bytes are known from elsewhere.
var known = []struct {
	text string
	want []byte
}{
	{"", nil},
	{"www.example.com", []byte{0xf1, 0xe3, 0xc2, 0xe5, 0xf2, 0x3a, 0x6b, 0xa0, 0xab, 0x90, 0xf4, 0xff}}, // the document's third example
	{"no-cache", []byte{0xa8, 0xeb, 0x10, 0x64, 0x9c, 0xbf}},
	{"custom-key", []byte{0x25, 0xa8, 0x49, 0xe9, 0x5b, 0xa9, 0x7d, 0x7f}},
	{"custom-value", []byte{0x25, 0xa8, 0x49, 0xe9, 0x5b, 0xb8, 0xe8, 0xb4, 0xbf}},
	{"302", []byte{0x64, 0x02}},
	{"307", []byte{0x64, 0x0e, 0xff}},
	{"private", []byte{0xae, 0xc3, 0x77, 0x1a, 0x4b}},
	{"gzip", []byte{0x9b, 0xd9, 0xab}},
	{"https://www.example.com", []byte{0x9d, 0x29, 0xad, 0x17, 0x18, 0x63, 0xc7, 0x8f, 0x0b, 0x97, 0xc8, 0xe9, 0xae, 0x82, 0xae, 0x43, 0xd3}},
	{"0", []byte{0x07}},
	{"00000000", []byte{0, 0, 0, 0, 0}},
	{"a", []byte{0x1f}},
	{"X", []byte{0xfc}},
	{"\n", []byte{0xff, 0xff, 0xff, 0xf3}},
	{"\x16", []byte{0xff, 0xff, 0xff, 0xfb}},
	{"\xff", []byte{0xff, 0xff, 0xfb, 0xbf}},
}

// P4.1: a text's bytes, how many they are, and the text of them.
func TestKnown(t *testing.T) {
	for _, x := range known {
		text := []byte(x.text)
		if b := huff.Encode(text); !bytes.Equal(b, x.want) {
			t.Errorf("Encode(%q) is %x, not %x", text, b, x.want)
		}
		if n := huff.Size(text); n != len(x.want) {
			t.Errorf("Size(%q) is %d, not %d", text, n, len(x.want))
		}
		decodes(t, x.want, len(text), text, api.OK)
		decodes(t, x.want, math.MaxInt, text, api.OK)
	}
}

// P4.1: the codes, one behind the other, and 1s, so few that they are whole
// bytes.
func TestEncode(t *testing.T) {
	for _, text := range texts() {
		want := laid(text)
		if b := huff.Encode(text); !bytes.Equal(b, want) {
			t.Fatalf("Encode(%x) is %x, not %x", text, b, want)
		}
		if n := huff.Size(text); n != len(want) {
			t.Fatalf("Size(%x) is %d, not %d", text, n, len(want))
		}
	}
	for a := range 256 {
		for c := 0; c < 256; c += 5 {
			text := []byte{byte(a), byte(c), byte(a)}
			if b := huff.Encode(text); !bytes.Equal(b, laid(text)) || huff.Size(text) != len(b) {
				t.Fatalf("Encode(%x) is %x, not %x", text, b, laid(text))
			}
		}
	}
}

// P4.1: ErrFull, as soon as a text has more than may be.
func TestMost(t *testing.T) {
	for _, text := range texts() {
		b := laid(text)
		decodes(t, b, len(text), text, api.OK)
		decodes(t, b, len(text)+1, text, api.OK)
		if len(text) == 0 {
			decodes(t, b, 0, text, api.OK)
			decodes(t, b, -1, text, api.OK)
			decodes(t, b, math.MinInt, text, api.OK)
			continue
		}
		for _, most := range []int{math.MinInt, -1 << 32, -len(text), -1, 0, len(text) / 2, len(text) - 1} {
			decodes(t, b, most, nil, api.ErrFull)
		}
	}
	// A text without bytes has not more than none.
	for _, most := range []int{math.MinInt, -1, 0} {
		decodes(t, []byte{0xff}, most, nil, api.ErrForm)
		decodes(t, []byte{0x07}, most, nil, api.ErrFull)
	}
}

// P4.1: the end's code stands there, wherever it does.
func TestEnd(t *testing.T) {
	for _, text := range []string{"", "0", "a", "aa", "www.example.com", "X", "\n", "\xff\x00"} {
		var figures string
		for i := range len(text) {
			figures += spelt[text[i]]
		}
		whole := figures + spelt[end]
		decodes(t, packed(whole), 99, nil, api.ErrForm)
		decodes(t, packed(whole+spelt['0']), 99, nil, api.ErrForm)
		decodes(t, packed(whole+spelt[end]), 99, nil, api.ErrForm)
		decodes(t, packed(whole), len(text), nil, api.ErrForm)
		// One bit of it less, with a 0, is another one's code.
		decodes(t, packed(whole[:len(whole)-1]+"0"), len(text)+1, []byte(text+"\x16"), api.OK)
	}
	decodes(t, []byte{255, 255, 255, 255}, 99, nil, api.ErrForm)
	decodes(t, []byte{255, 255, 255, 252}, 99, nil, api.ErrForm)
	decodes(t, bytes.Repeat([]byte{255}, 50), 99, nil, api.ErrForm)
}

// P4.1: what is left at last is not all 1s, or has more than 7 bits.
func TestFilling(t *testing.T) {
	for _, text := range []string{"", "0", "00", "000", "0000", "00000", "000000", "0000000", "00000000", " ", "  ", "   ", ":", "X", "X0", "!", "\n", "\n0"} {
		b := laid([]byte(text))
		var figures string
		for i := range len(text) {
			figures += spelt[text[i]]
		}
		room := 8*len(b) - len(figures)
		for i := 1; i <= room; i++ {
			// The last bits, one of them a 0, are no code's but where they are 5 or more.
			c := bytes.Clone(b)
			c[len(c)-1] ^= 1 << (i - 1)
			want, e := read(c, 99)
			decodes(t, c, 99, want, e)
			if room < 5 && e != api.ErrForm {
				t.Errorf("%x is %q, %d", c, want, e)
			}
		}
		// All 1s, but a byte too many: 8 to 15 bits, and 16 to 23.
		decodes(t, append(b[:len(b):len(b)], 255), 99, nil, api.ErrForm)
		decodes(t, append(b[:len(b):len(b)], 255, 255), 99, nil, api.ErrForm)
	}
	for _, b := range [][]byte{{255}, {255, 255}, {255, 255, 255}, {24}, {6}, {5}, {0}, {0x1e}, {0x1d}, {0xfe}, {0xff, 0xfe}, {0x07, 0xff}} {
		decodes(t, b, 99, nil, api.ErrForm)
	}
	// Seven bits, all 1s, are right: so many are left behind 25.
	decodes(t, packed(spelt['0']+spelt['0']+spelt['0']+spelt['0']+spelt['0']+"1111111"), 5, []byte("00000"), api.OK)
	decodes(t, packed(spelt[':']+spelt[' ']+spelt[' ']+spelt[' ']), 4, []byte(":   "), api.OK)
}

// P4.1: whichever comes first, bit by bit.
func TestFirst(t *testing.T) {
	decodes(t, packed(spelt['a']+spelt[end]), 0, nil, api.ErrFull)
	decodes(t, packed(spelt['a']+spelt[end]), 1, nil, api.ErrForm)
	decodes(t, packed(spelt[end]+spelt['a']), 0, nil, api.ErrForm)
	decodes(t, packed(spelt[end]+spelt['a']), -1, nil, api.ErrForm)
	decodes(t, packed(spelt['a']+spelt['b']+spelt[end]), 1, nil, api.ErrFull)
	decodes(t, []byte{24}, 0, nil, api.ErrFull)
	decodes(t, []byte{24}, 1, nil, api.ErrForm)
	decodes(t, append(laid([]byte("www")), 255), 2, nil, api.ErrFull)
	decodes(t, append(laid([]byte("www")), 255), 3, nil, api.ErrForm)
}

// P4.1: all of what one and two bytes are, and some of what more are.
func TestDecodeAll(t *testing.T) {
	check := func(most int, b ...byte) {
		t.Helper()
		want, e := read(b, most)
		decodes(t, b, most, want, e)
	}
	for i := range 256 {
		for most := range 3 {
			check(most, byte(i))
		}
		for j := 0; j < 256; j++ {
			check(2+j%2, byte(i), byte(j))
		}
		for j := 0; j < 256; j += 3 {
			check(9, 255, byte(i), byte(j))
			check(9, 255, 255, byte(i), byte(j))
			check(9, 255, 255, 255, byte(i), byte(j))
		}
	}
	r := rand.New(rand.NewSource(44))
	for range 4000 {
		b := make([]byte, r.Intn(20))
		r.Read(b)
		for i := range b {
			if r.Intn(3) == 0 {
				b[i] = 255
			}
		}
		check(r.Intn(40)-1, b...)
	}
}

// P4.2, T1: a text is that of its bytes.
func TestThereAndBack(t *testing.T) {
	for _, text := range texts() {
		b := huff.Encode(text)
		if back, e := huff.Decode(b, len(text)); e != api.OK || !bytes.Equal(back, text) {
			t.Fatalf("%x comes back from %x as %x, %d", text, b, back, e)
		}
	}
	long := bytes.Repeat(every(), 1<<8) // as long as a text of a field may be
	b := huff.Encode(long)
	if len(b) != huff.Size(long) {
		t.Errorf("%d bytes, not %d", len(b), huff.Size(long))
	}
	if back, e := huff.Decode(b, api.MaxText); e != api.OK || !bytes.Equal(back, long) {
		t.Errorf("a long one comes back with %d bytes, %d", len(back), e)
	}
	if back, e := huff.Decode(b, api.MaxText-1); e != api.ErrFull || len(back) != 0 {
		t.Errorf("a long one comes back with %d bytes, %d", len(back), e)
	}
}

// P4.2, T1: bytes that are a text's are its.
func TestBytesThereAndBack(t *testing.T) {
	whole := 0
	check := func(b ...byte) {
		t.Helper()
		text, e := huff.Decode(b, math.MaxInt)
		if e != api.OK {
			return
		}
		whole++
		if c := huff.Encode(text); !bytes.Equal(c, b) {
			t.Fatalf("%x is the text %x, whose bytes are %x", b, text, c)
		}
	}
	for i := range 256 {
		check(byte(i))
		for j := range 256 {
			check(byte(i), byte(j))
		}
	}
	r := rand.New(rand.NewSource(444))
	for range 4000 {
		b := make([]byte, r.Intn(12)+1)
		r.Read(b)
		b[len(b)-1] |= 127 >> r.Intn(8)
		check(b...)
	}
	if whole < 4000 {
		t.Errorf("only %d were a text's", whole)
	}
}

// P4.2: no code is another one's beginning, nor is it another one's.
func TestNoBeginning(t *testing.T) {
	for a := range 257 {
		for b := range 257 {
			longer := huff.Length(b) - huff.Length(a)
			if a != b && longer >= 0 && huff.Code(b)>>longer == huff.Code(a) {
				t.Errorf("%d's code begins %d's", a, b)
			}
		}
	}
}

// P1: every call ends, and none panics, at all arguments; and beside an error
// all else is zero.
func TestNoPanic(t *testing.T) {
	for bit := range 64 {
		for _, c := range []int{1<<bit - 1, 1 << bit, 1<<bit + 1, -1 << bit, -1<<bit - 1, -1<<bit + 1} {
			right := 0 <= c && c <= end
			if (huff.Length(c) > 0) != right || !right && huff.Code(c) != 0 || huff.Code(c) < 0 {
				t.Errorf("%d: %d bits, %x", c, huff.Length(c), huff.Code(c))
			}
		}
	}
	if huff.Size(nil) != 0 || len(huff.Encode(nil)) != 0 {
		t.Error("no text has bytes")
	}
	for _, most := range append([]int{0, 1, 5, 100}, odd...) {
		decodes(t, nil, most, nil, api.OK)
		decodes(t, []byte{}, most, nil, api.OK)
		for _, fill := range []byte{0, 1, 7, 127, 128, 254, 255} {
			for count := range 20 {
				b := bytes.Repeat([]byte{fill}, count)
				want, e := read(b, most)
				decodes(t, b, most, want, e)
				if e != api.OK && len(want) != 0 {
					t.Fatal("an error, and a text")
				}
			}
		}
	}
	decodes(t, bytes.Repeat([]byte{255}, 1<<20), math.MaxInt, nil, api.ErrForm)
	decodes(t, make([]byte, 5<<17), math.MaxInt, bytes.Repeat([]byte{'0'}, 1<<20), api.OK)
	decodes(t, make([]byte, 5<<17), 1<<20-1, nil, api.ErrFull)
}

// P2: the same arguments are answered alike, whatever was asked between.
func TestSameAgain(t *testing.T) {
	type told struct {
		bytes, text        string
		size, length, code int
		errno              api.Errno
	}
	var first []told
	for round := range 3 {
		i := 0
		for at, text := range texts() {
			if at%7 > 0 {
				continue
			}
			x := told{bytes: string(huff.Encode(text)), size: huff.Size(text), length: huff.Length(at - 9), code: huff.Code(at - 9)}
			back, e := huff.Decode(append([]byte(x.bytes), byte(at)), len(text))
			x.text, x.errno = string(back), e
			if round == 0 {
				first = append(first, x)
			} else if first[i] != x {
				t.Fatalf("%x: first %v, then %v", text, first[i], x)
			}
			i++
		}
	}
}

// P2: what is handed in is not written into; what lies behind a list's length
// is neither read nor written.
func TestArgumentsStay(t *testing.T) {
	whole := []byte{0xf1, 0xe3, 0xc2, 0xe5, 0xf2, 0x3a, 0x6b, 0xa0, 0xab, 0x90, 0xf4, 0xff}
	for _, fill := range []byte{0, 7, 128, 255} {
		for count := range len(whole) + 1 {
			b := append(bytes.Clone(whole[:count]), bytes.Repeat([]byte{fill}, 20)...)
			was := bytes.Clone(b)
			want, e := read(whole[:count], 99)
			decodes(t, b[:count], 99, want, e)
			if c := huff.Encode(b[:count]); !bytes.Equal(c, laid(whole[:count])) || huff.Size(b[:count]) != len(c) {
				t.Errorf("the bytes of %x are %x", whole[:count], c)
			}
			if !bytes.Equal(b, was) {
				t.Fatalf("%x became %x", was, b)
			}
		}
	}
}

// spoil writes over all that a list has, behind its length too.
func spoil(b []byte) {
	b = b[:cap(b)]
	for i := range b {
		b[i] = 100
	}
}

// P2: what is answered is new memory: neither an argument nor another answer
// changes with it.
func TestNewMemory(t *testing.T) {
	for _, x := range known {
		text, code := []byte(x.text), bytes.Clone(x.want)
		b, c := huff.Encode(text), huff.Encode(text)
		p, _ := huff.Decode(code, 99)
		q, _ := huff.Decode(code, 99)
		spoil(b)
		spoil(p)
		if string(text) != x.text || !bytes.Equal(code, x.want) || !bytes.Equal(c, x.want) || string(q) != x.text {
			t.Errorf("%q shares memory: %q, %x, %x, %q", x.text, text, code, c, q)
		}
		spoil(text)
		spoil(code)
		if !bytes.Equal(c, x.want) || string(q) != x.text {
			t.Errorf("%q is kept from an argument: %x, %q", x.text, c, q)
		}
	}
}
