package literal_test

import (
	"bytes"
	"math"
	"math/rand"
	"strings"
	"testing"

	"gantlet/api"
	"gantlet/huff"
	"gantlet/literal"
)

// head is a count for a prefix of 7 bits, with something above.
func head(n, above int) []byte {
	if n < 127 {
		return []byte{byte(above + n)}
	}
	b := []byte{byte(above + 127)}
	for n -= 127; n > 127; n /= 128 {
		b = append(b, byte(128+n%128))
	}
	return append(b, byte(n))
}

// laid is a text's bytes, as the document says.
func laid(s string, squeezed bool) []byte {
	if squeezed {
		body := huff.Encode([]byte(s))
		return append(head(len(body), 128), body...)
	}
	return append(head(len(s), 0), s...)
}

// text is some text, of bytes from one on, so many of them that there are.
func text(r *rand.Rand, size, from, kinds int) string {
	b := make([]byte, size)
	for i := range b {
		b[i] = byte(from + r.Intn(kinds))
	}
	return string(b)
}

// texts are such as there may be: none, each byte alone, counts at which their
// own bytes become more, the greatest ones.
func texts() []string {
	r := rand.New(rand.NewSource(5))
	l := []string{"", "www.example.com", "no-cache", "302", strings.Repeat("\n", 9), strings.Repeat("0", api.MaxText), strings.Repeat("\n", api.MaxText)}
	for c := range 256 {
		l = append(l, string([]byte{byte(c)}))
	}
	for _, size := range []int{1, 2, 3, 9, 33, 34, 125, 126, 127, 128, 129, 202, 203, 204, 254, 255, 256, 16509, 16510, 16511, 16512, api.MaxText - 1, api.MaxText} {
		l = append(l, text(r, size, 0, 256), text(r, size, 32, 95), text(r, size, '0', 10))
	}
	for range 300 {
		l = append(l, text(r, r.Intn(300), 0, 256), text(r, r.Intn(300), 32, 95))
	}
	return l
}

// decodes tells whether bytes are answered with just that.
func decodes(t *testing.T, b []byte, most int, want string, count int, errno api.Errno) {
	t.Helper()
	if s, n, e := literal.Decode(b, most); e != errno || s != want || n != count {
		t.Errorf("Decode(%x.., %d) is %q, %d, %d, not %q, %d, %d", b[:min(len(b), 20)], most, s, n, e, want, count, errno)
	}
}

// P5.1: the bytes of known texts.
func TestKnown(t *testing.T) {
	for _, x := range []struct {
		s               string
		plain, squeezed []byte
	}{
		{"", []byte{0}, []byte{128}},
		{"302", []byte{3, '3', '0', '2'}, []byte{130, 100, 2}},
		{"a", []byte{1, 'a'}, []byte{129, 31}},
		{"\x00", []byte{1, 0}, []byte{130, 255, 199}},
		{"no-cache", append([]byte{8}, "no-cache"...), []byte{134, 0xa8, 0xeb, 0x10, 0x64, 0x9c, 0xbf}},
		{"www.example.com", append([]byte{15}, "www.example.com"...), []byte{140, 0xf1, 0xe3, 0xc2, 0xe5, 0xf2, 0x3a, 0x6b, 0xa0, 0xab, 0x90, 0xf4, 0xff}},
		{strings.Repeat("w", 126), append([]byte{126}, strings.Repeat("w", 126)...), nil},
		{strings.Repeat("w", 127), append([]byte{127, 0}, strings.Repeat("w", 127)...), nil},
		{strings.Repeat("w", 1337), append([]byte{127, 186, 9}, strings.Repeat("w", 1337)...), nil},
	} {
		if b, e := literal.Encode(x.s, false); e != api.OK || !bytes.Equal(b, x.plain) {
			t.Errorf("plain %q: %x, %d", x.s, b, e)
		}
		decodes(t, x.plain, len(x.s), x.s, len(x.plain), api.OK)
		if x.squeezed == nil {
			continue
		}
		if b, e := literal.Encode(x.s, true); e != api.OK || !bytes.Equal(b, x.squeezed) {
			t.Errorf("squeezed %q: %x, %d", x.s, b, e)
		}
		decodes(t, x.squeezed, len(x.s), x.s, len(x.squeezed), api.OK)
	}
}

// P5.1: all texts, plain and squeezed, and the shorter ones, held against the
// document's words.
func TestEncode(t *testing.T) {
	for _, s := range texts() {
		plain, squeezed := laid(s, false), laid(s, true)
		if b, e := literal.Encode(s, false); e != api.OK || !bytes.Equal(b, plain) {
			t.Errorf("plain, of %d bytes: %d", len(s), e)
		}
		if b, e := literal.Encode(s, true); e != api.OK || !bytes.Equal(b, squeezed) {
			t.Errorf("squeezed, of %d bytes: %d", len(s), e)
		}
		short := plain
		if len(squeezed) < len(plain) {
			short = squeezed
		}
		if b := literal.Short(s); !bytes.Equal(b, short) {
			t.Errorf("short, of %d bytes: %d, not %d", len(s), len(b), len(short))
		}
	}
}

// P5.1: of both that are as long, the plain ones are taken.
func TestShortPlain(t *testing.T) {
	for _, s := range []string{"", "x", "a", "&&", ":a", "\\", "\x00"} {
		plain, squeezed := laid(s, false), laid(s, true)
		if len(squeezed) >= len(plain) && !bytes.Equal(literal.Short(s), plain) {
			t.Errorf("%q: %x", s, literal.Short(s))
		}
	}
	if b := literal.Short("x"); !bytes.Equal(b, []byte{1, 'x'}) {
		t.Errorf("x: %x", b)
	}
	if b := literal.Short("aa"); !bytes.Equal(b, []byte{2, 'a', 'a'}) {
		t.Errorf("aa: %x", b)
	}
	if b := literal.Short("aaa"); !bytes.Equal(b, []byte{130, 0x18, 0xc7}) {
		t.Errorf("aaa: %x", b)
	}
}

// P5.1: a text with too many bytes has none of its own.
func TestTooLong(t *testing.T) {
	for _, size := range []int{api.MaxText + 1, api.MaxText + 2, 2 * api.MaxText, 1 << 20} {
		s := strings.Repeat("0", size)
		for _, squeezed := range []bool{false, true} {
			if b, e := literal.Encode(s, squeezed); len(b) != 0 || e != api.ErrArg {
				t.Errorf("%d, %v: %d bytes, %d", size, squeezed, len(b), e)
			}
		}
		if b := literal.Short(s); len(b) != 0 {
			t.Errorf("%d: %d bytes", size, len(b))
		}
	}
}

// P5.1: a text that is longer than those that Encode takes is decoded, if it
// may have so many bytes.
func TestLongDecoded(t *testing.T) {
	for _, squeezed := range []bool{false, true} {
		s := strings.Repeat("0", 3*api.MaxText)
		b := laid(s, squeezed)
		decodes(t, b, len(s), s, len(b), api.OK)
		decodes(t, b, math.MaxInt, s, len(b), api.OK)
		decodes(t, b, len(s)-1, "", 0, api.ErrFull)
		decodes(t, b, api.MaxText, "", 0, api.ErrFull)
	}
}

// P5.1: how many bytes there may be is counted in the text, not in its code.
func TestMost(t *testing.T) {
	for _, s := range texts() {
		for _, squeezed := range []bool{false, true} {
			b := laid(s, squeezed)
			decodes(t, b, len(s), s, len(b), api.OK)
			decodes(t, b, math.MaxInt, s, len(b), api.OK)
			if s == "" {
				decodes(t, b, -1, "", len(b), api.OK)
				decodes(t, b, math.MinInt, "", len(b), api.OK)
				continue
			}
			for _, most := range []int{len(s) - 1, 0, -1, math.MinInt} {
				decodes(t, b, most, "", 0, api.ErrFull)
			}
		}
	}
}

// P5.1: of several errors the one that is named first.
func TestErrors(t *testing.T) {
	for _, x := range []struct {
		b    []byte
		most int
		e    api.Errno
	}{
		{nil, 9, api.ErrMore},
		{[]byte{}, -1, api.ErrMore},
		// The count's own errors.
		{[]byte{127}, 9, api.ErrMore},
		{[]byte{255, 128}, 9, api.ErrMore},
		{[]byte{127, 128, 128, 128}, 9, api.ErrMore},
		{[]byte{127, 128, 128, 128, 128}, 9, api.ErrForm},
		{[]byte{255, 255, 255, 255, 127, 0}, 0, api.ErrForm},
		// The greatest count, and one more.
		{[]byte{127, 128, 255, 255, 7}, 9, api.ErrMore},
		{[]byte{127, 129, 255, 255, 7}, 9, api.ErrForm},
		// Bytes that are not all there, ahead of how many there may be, and of the code.
		{[]byte{1}, 9, api.ErrMore},
		{[]byte{5, 1}, 0, api.ErrMore},
		{[]byte{129}, 9, api.ErrMore},
		{[]byte{133, 24, 24, 24, 24}, 0, api.ErrMore},
		{[]byte{127, 0}, 9, api.ErrMore},
		// The code's errors: what is left behind the last one; the end.
		{[]byte{129, 24}, 9, api.ErrForm},
		{[]byte{129, 255}, 9, api.ErrForm},
		{[]byte{132, 255, 255, 255, 255}, 9, api.ErrForm},
		{[]byte{132, 255, 255, 255, 252}, 9, api.ErrForm},
		{[]byte{130, 31, 255}, 9, api.ErrForm},
		// The text is too long ahead of its fault; the fault is ahead of its length.
		{[]byte{129, 24}, 0, api.ErrFull},
		{[]byte{130, 31, 255}, 0, api.ErrFull},
		{[]byte{133, 255, 255, 255, 255, 24}, 0, api.ErrForm},
		{[]byte{2, 'a', 'b'}, 1, api.ErrFull},
		{[]byte{2, 'a', 'b', 'c'}, 0, api.ErrFull},
	} {
		decodes(t, x.b, x.most, "", 0, x.e)
	}
}

// P5.1: a count in more bytes than it needs is one all the same.
func TestLongCount(t *testing.T) {
	long := strings.Repeat("0", 127)
	decodes(t, append([]byte{127, 128, 0}, long...), 127, long, 130, api.OK)
	decodes(t, append([]byte{127, 128, 128, 128, 0}, long...), 127, long, 132, api.OK)
}

// T1, P5.2: a text comes back from its bytes, whatever is behind; cut short
// anywhere they are ErrMore.
func TestThereAndBack(t *testing.T) {
	for _, s := range texts() {
		for _, b := range [][]byte{laid(s, false), laid(s, true), literal.Short(s)} {
			for _, behind := range [][]byte{{0}, {255}, {128, 1}, b} {
				decodes(t, append(bytes.Clone(b), behind...), len(s), s, len(b), api.OK)
			}
			for cut := range min(len(b), 300) {
				decodes(t, b[:cut], len(s), "", 0, api.ErrMore)
				decodes(t, b[:cut], 0, "", 0, api.ErrMore)
			}
			decodes(t, b[:len(b)-1], len(s), "", 0, api.ErrMore)
		}
	}
}

// T1, P5.2: bytes of texts, one behind the other, are gone through one by one.
func TestMany(t *testing.T) {
	var b []byte
	list := texts()
	for i, s := range list {
		one, _ := literal.Encode(s, i%2 == 0)
		b = append(b, one...)
	}
	for i, s := range list {
		got, n, e := literal.Decode(b, api.MaxText)
		if e != api.OK || got != s {
			t.Fatalf("text %d: %d", i, e)
		}
		b = b[n:]
	}
	if len(b) != 0 {
		t.Errorf("%d bytes are left", len(b))
	}
}

// numbers are such as may be anywhere.
var numbers = []int{math.MinInt, -1, 0, 1, 2, 5, 127, api.MaxText, math.MaxInt}

// P1: whatever bytes there are, each call ends; beside an error all is zero.
func TestNoPanic(t *testing.T) {
	r := rand.New(rand.NewSource(1))
	for i := range 20000 {
		b := make([]byte, r.Intn(12))
		r.Read(b)
		if i%2 == 0 && len(b) > 0 {
			b[0] = byte(128*r.Intn(2) + r.Intn(len(b)+1))
		}
		for _, most := range numbers[i%3:] {
			s, n, e := literal.Decode(b, most)
			if e != api.OK && (s != "" || n != 0) {
				t.Fatalf("%x, %d: %q, %d beside %d", b, most, s, n, e)
			}
			if e == api.OK && (n < 1 || n > len(b) || len(s) > max(most, 0)) {
				t.Fatalf("%x, %d: %q, %d", b, most, s, n)
			}
		}
		literal.Short(string(b))
	}
}

// P2: the same arguments are answered alike, whatever was asked in between.
func TestSameAgain(t *testing.T) {
	ask := func() string {
		var all strings.Builder
		for _, s := range []string{"", "302", "no-cache", "\x00\xff"} {
			a, _ := literal.Encode(s, false)
			b, _ := literal.Encode(s, true)
			got, n, _ := literal.Decode(b, 3)
			all.WriteString(string(a) + string(b) + string(literal.Short(s)) + got + string(rune(n)))
		}
		return all.String()
	}
	first := ask()
	literal.Encode(strings.Repeat("0", api.MaxText+1), true)
	literal.Decode([]byte{129, 24}, 9)
	literal.Decode(nil, 0)
	if ask() != first {
		t.Error("asked again, it is answered otherwise")
	}
}

// Rule 4: what is handed in stays as it is, what is behind it too.
func TestArgumentsStay(t *testing.T) {
	for _, s := range texts() {
		for _, squeezed := range []bool{false, true} {
			room := append(laid(s, squeezed), 9, 9, 9, 9)
			was := bytes.Clone(room)
			b := room[:len(room)-4]
			literal.Decode(b, len(s))
			literal.Decode(b[:len(b)-1], len(s))
			if !bytes.Equal(room, was) {
				t.Fatalf("of %d bytes: they were written", len(s))
			}
		}
	}
	// What is behind a list's length is not read.
	decodes(t, []byte{2, 'a', 'b'}[:2], 9, "", 0, api.ErrMore)
}

// Rule 4: what is answered is new memory, and no argument.
func TestNewMemory(t *testing.T) {
	b := []byte{2, 'a', 'b'}
	s, _, _ := literal.Decode(b, 9)
	b[1], b[2] = 'x', 'y'
	if s != "ab" {
		t.Errorf("%q: it is kept", s)
	}
	for _, squeezed := range []bool{false, true} {
		one, _ := literal.Encode("302", squeezed)
		clear(one)
		two, _ := literal.Encode("302", squeezed)
		if !bytes.Equal(two, laid("302", squeezed)) {
			t.Errorf("%x: it is shared", two)
		}
	}
	one := literal.Short("302")
	clear(one)
	if !bytes.Equal(literal.Short("302"), []byte{130, 100, 2}) {
		t.Error("short: it is shared")
	}
}
