package item_test

import (
	"bytes"
	"math"
	"math/rand"
	"strconv"
	"strings"
	"testing"

	"gantlet/api"
	"gantlet/item"
	"gantlet/literal"
	"gantlet/prefix"
)

// The kinds, as the document numbers them.
const (
	indexed = 0
	kept    = 1
	plain   = 2
	never   = 3
	size    = 4
)

// layouts are the kinds' prefixes, and what stands above these.
var layouts = [][2]int{{7, 128}, {6, 64}, {4, 0}, {4, 16}, {5, 32}}

// laid is the bytes of an item that may be, as the document says, its texts laid
// out by a function.
func laid(x item.Item, text func(s string) []byte) []byte {
	b, e := prefix.Encode(x.N, layouts[x.Kind][0], layouts[x.Kind][1])
	if e != api.OK {
		panic("no number")
	}
	if x.Kind == indexed || x.Kind == size {
		return b
	}
	if x.N == 0 {
		b = append(b, text(x.Name)...)
	}
	return append(b, text(x.Value)...)
}

// fixed lays a text out plain, or squeezed.
func fixed(squeezed bool) func(s string) []byte {
	return func(s string) []byte {
		b, _ := literal.Encode(s, squeezed)
		return b
	}
}

// text is some text, of bytes from one on, so many of them that there are.
func text(r *rand.Rand, size, from, kinds int) string {
	b := make([]byte, size)
	for i := range b {
		b[i] = byte(from + r.Intn(kinds))
	}
	return string(b)
}

// numbers are such as there may be: at which an item's bytes become more, too.
func numbers() []int {
	var l []int
	for n := range 400 {
		l = append(l, n)
	}
	for shift := 9; shift < 24; shift++ {
		l = append(l, 1<<shift-1, 1<<shift, 1<<shift+1)
	}
	return append(l, 4096, 61, 62, api.MaxInt-1, api.MaxInt)
}

// texts are such as there may be.
func texts() []string {
	r := rand.New(rand.NewSource(8))
	return []string{
		"", "a", "x", "\x00", "302", "no-cache", ":method", "www.example.com", "\xff\xfe",
		strings.Repeat("0", 127), strings.Repeat("\n", 300), strings.Repeat("0", api.MaxText), strings.Repeat("\n", api.MaxText),
		text(r, 100, 0, 256), text(r, 1000, 32, 95), text(r, api.MaxText, 0, 256), text(r, api.MaxText-1, 32, 95),
	}
}

// items are such as may be.
func items() []item.Item {
	var l []item.Item
	for _, n := range numbers() {
		l = append(l, item.Item{Kind: size, N: n})
		if n == 0 {
			continue
		}
		l = append(l, item.Item{Kind: indexed, N: n})
		for kind := kept; kind <= never; kind++ {
			l = append(l, item.Item{Kind: kind, N: n}, item.Item{Kind: kind, N: n, Value: "302"})
		}
	}
	for i, name := range texts() {
		for j, value := range texts() {
			if max(len(name), len(value)) > 1000 && name != "a" && value != "302" {
				continue
			}
			l = append(l, item.Item{Kind: kept + (i+j)%3, Name: name, Value: value})
		}
		kind := kept + i%3
		l = append(l, item.Item{Kind: kind, Name: name}, item.Item{Kind: kind, N: 1 + i, Value: name}, item.Item{Kind: kind, Name: name, Value: name})
	}
	return l
}

// wrong are items that may not be.
func wrong() []item.Item {
	long := strings.Repeat("0", api.MaxText+1)
	l := []item.Item{{Kind: indexed}, {Kind: indexed, Name: "a"}, {Kind: indexed, Value: "a"}}
	for _, kind := range []int{-1, 5, 6, 256, -256, 1 << 32, math.MinInt, math.MaxInt} {
		l = append(l, item.Item{Kind: kind}, item.Item{Kind: kind, N: 1}, item.Item{Kind: kind, Name: "a", Value: "b"})
	}
	for kind := range layouts {
		for _, n := range []int{-1, -128, api.MaxInt + 1, 1 << 32, math.MinInt, math.MaxInt} {
			l = append(l, item.Item{Kind: kind, N: n})
		}
		l = append(l,
			item.Item{Kind: kind, N: 1, Name: "a"}, item.Item{Kind: kind, N: api.MaxInt, Name: "a"},
			item.Item{Kind: kind, N: 1, Name: "a", Value: "b"}, item.Item{Kind: kind, N: 1, Value: long},
			item.Item{Kind: kind, Name: long}, item.Item{Kind: kind, Value: long}, item.Item{Kind: kind, Name: long, Value: long},
			item.Item{Kind: kind, Name: "a", Value: long}, item.Item{Kind: kind, Name: long, Value: "a"},
		)
	}
	for _, kind := range []int{indexed, size} {
		for _, n := range []int{0, 1, 62, api.MaxInt} {
			l = append(l, item.Item{Kind: kind, N: n, Name: "a"}, item.Item{Kind: kind, N: n, Value: "a"}, item.Item{Kind: kind, N: n, Name: "a", Value: "b"})
		}
	}
	return l
}

// told is an item in short, for what a test says.
func told(x item.Item) item.Item {
	x.Name = strconv.QuoteToASCII(x.Name[:min(len(x.Name), 20)])
	x.Value = strconv.QuoteToASCII(x.Value[:min(len(x.Value), 20)])
	return x
}

// decodes tells whether bytes are answered with just that.
func decodes(t *testing.T, b []byte, most int, want item.Item, count int, errno api.Errno) {
	t.Helper()
	if x, n, e := item.Decode(b, most); e != errno || x != want || n != count {
		t.Errorf("Decode(%x.., %d) is %v, %d, %d, not %v, %d, %d", b[:min(len(b), 20)], most, told(x), n, e, told(want), count, errno)
	}
}

// P8.1: the bytes of known items.
func TestKnown(t *testing.T) {
	custom := append(append([]byte{64, 10}, "custom-key"...), append([]byte{13}, "custom-header"...)...)
	for _, x := range []struct {
		x item.Item
		b []byte
	}{
		{item.Item{Kind: indexed, N: 1}, []byte{129}},
		{item.Item{Kind: indexed, N: 2}, []byte{130}},
		{item.Item{Kind: indexed, N: 126}, []byte{254}},
		{item.Item{Kind: indexed, N: 127}, []byte{255, 0}},
		{item.Item{Kind: indexed, N: api.MaxInt}, []byte{255, 128, 255, 255, 7}},
		{item.Item{Kind: kept}, []byte{64, 0, 0}},
		{item.Item{Kind: kept, N: 4, Value: "a"}, []byte{68, 1, 'a'}},
		{item.Item{Kind: kept, N: 62}, []byte{126, 0}},
		{item.Item{Kind: kept, N: 63}, []byte{127, 0, 0}},
		{item.Item{Kind: plain}, []byte{0, 0, 0}},
		{item.Item{Kind: plain, Name: "x"}, []byte{0, 1, 'x', 0}},
		{item.Item{Kind: plain, N: 14, Value: "x"}, []byte{14, 1, 'x'}},
		{item.Item{Kind: plain, N: 15, Value: "x"}, []byte{15, 0, 1, 'x'}},
		{item.Item{Kind: never, Value: "x"}, []byte{16, 0, 1, 'x'}},
		{item.Item{Kind: never, N: 14}, []byte{30, 0}},
		{item.Item{Kind: never, N: 15}, []byte{31, 0, 0}},
		{item.Item{Kind: never, N: 8, Value: "302"}, []byte{24, 130, 100, 2}},
		{item.Item{Kind: size}, []byte{32}},
		{item.Item{Kind: size, N: 30}, []byte{62}},
		{item.Item{Kind: size, N: 31}, []byte{63, 0}},
		{item.Item{Kind: size, N: 4096}, []byte{63, 225, 31}},
		{item.Item{Kind: size, N: api.MaxInt}, []byte{63, 224, 255, 255, 7}},
	} {
		if b, e := item.Encode(x.x); e != api.OK || !bytes.Equal(b, x.b) {
			t.Errorf("%v: %x, %d", x.x, b, e)
		}
		decodes(t, x.b, 13, x.x, len(x.b), api.OK)
	}
	decodes(t, custom, 13, item.Item{Kind: kept, Name: "custom-key", Value: "custom-header"}, len(custom), api.OK)
}

// P8.1: an item that may be has its bytes, its texts as short as can be.
func TestEncode(t *testing.T) {
	for _, x := range items() {
		if !item.Right(x) {
			t.Errorf("%v may not be", told(x))
		}
		if b, e := item.Encode(x); e != api.OK || !bytes.Equal(b, laid(x, literal.Short)) {
			t.Errorf("%v: %x.., %d", told(x), b[:min(len(b), 20)], e)
		}
	}
}

// P8.1: an item that may not be has no bytes.
func TestWrong(t *testing.T) {
	for _, x := range wrong() {
		if item.Right(x) {
			t.Errorf("%v may be", told(x))
		}
		if b, e := item.Encode(x); len(b) != 0 || e != api.ErrArg {
			t.Errorf("%v: %d bytes, %d", told(x), len(b), e)
		}
	}
}

// P8.1: which items may be, held against the document's words, all over.
func TestRight(t *testing.T) {
	may := func(x item.Item) bool {
		none := x.Name == "" && x.Value == ""
		if x.N < 0 || x.N > api.MaxInt || len(x.Name) > api.MaxText || len(x.Value) > api.MaxText {
			return false
		}
		switch x.Kind {
		case indexed:
			return x.N >= 1 && none
		case kept, plain, never:
			return x.N == 0 || x.Name == ""
		case size:
			return none
		}
		return false
	}
	some := []string{"", "a", strings.Repeat("0", api.MaxText), strings.Repeat("0", api.MaxText+1)}
	for kind := -2; kind < 8; kind++ {
		for _, n := range []int{math.MinInt, -1, 0, 1, 2, 61, 127, api.MaxInt, api.MaxInt + 1, math.MaxInt} {
			for _, name := range some {
				for _, value := range some {
					x := item.Item{Kind: kind, N: n, Name: name, Value: value}
					if item.Right(x) != may(x) {
						t.Errorf("%v, with %d and %d bytes: %v", told(x), len(name), len(value), item.Right(x))
					}
				}
			}
		}
	}
}

// P8.1: every first byte tells a kind by its first bits, and a number.
func TestFirstBits(t *testing.T) {
	for first := range 256 {
		kind := plain
		switch {
		case first >= 128:
			kind = indexed
		case first >= 64:
			kind = kept
		case first >= 32:
			kind = size
		case first >= 16:
			kind = never
		}
		full := 1<<layouts[kind][0] - 1
		want := item.Item{Kind: kind, N: first & full}
		count := 1
		b := []byte{byte(first), 0, 0, 0}
		if want.N == full {
			count = 2
		}
		if kind == kept || kind == plain || kind == never {
			count++
			if want.N == 0 {
				count++
			}
		}
		if first == 128 {
			decodes(t, b, 9, item.Item{}, 0, api.ErrForm)
			continue
		}
		decodes(t, b, 9, want, count, api.OK)
	}
}

// P8.1: an index 0 is one of kind 0 alone.
func TestIndexZero(t *testing.T) {
	for _, b := range [][]byte{{128}, {128, 0}, {128, 130}, {128, 255, 255}} {
		decodes(t, b, 9, item.Item{}, 0, api.ErrForm)
	}
	decodes(t, []byte{64, 0, 0}, 9, item.Item{Kind: kept}, 3, api.OK)
	decodes(t, []byte{0, 0, 0}, 9, item.Item{Kind: plain}, 3, api.OK)
	decodes(t, []byte{16, 0, 0}, 9, item.Item{Kind: never}, 3, api.OK)
	decodes(t, []byte{32, 0, 0}, 9, item.Item{Kind: size}, 1, api.OK)
}

// P8.1: the errors of its parts, in their order.
func TestErrors(t *testing.T) {
	for _, x := range []struct {
		b    []byte
		most int
		e    api.Errno
	}{
		{nil, 9, api.ErrMore},
		{[]byte{}, math.MinInt, api.ErrMore},
		// The number, of each kind: it ends too soon; it has too many bytes; it is too great.
		{[]byte{255}, 9, api.ErrMore},
		{[]byte{127, 128, 128}, 9, api.ErrMore},
		{[]byte{15}, 9, api.ErrMore},
		{[]byte{31, 255}, 9, api.ErrMore},
		{[]byte{63, 128, 128, 128}, 9, api.ErrMore},
		{[]byte{255, 128, 128, 128, 128}, 9, api.ErrForm},
		{[]byte{127, 128, 128, 128, 128, 0}, 9, api.ErrForm},
		{[]byte{15, 128, 128, 128, 128}, 9, api.ErrForm},
		{[]byte{31, 255, 255, 255, 127}, 9, api.ErrForm},
		{[]byte{63, 225, 255, 255, 7}, 9, api.ErrForm},
		{[]byte{255, 129, 255, 255, 7}, 9, api.ErrForm},
		// The name, ahead of the value.
		{[]byte{64}, 9, api.ErrMore},
		{[]byte{64, 2, 'a'}, 9, api.ErrMore},
		{[]byte{64, 2, 'a'}, 1, api.ErrMore},
		{[]byte{0, 127}, 9, api.ErrMore},
		{[]byte{16, 127, 128, 128, 128, 128}, 9, api.ErrForm},
		{[]byte{64, 2, 'a', 'b'}, 1, api.ErrFull},
		{[]byte{0, 2, 'a', 'b', 129, 24}, 1, api.ErrFull},
		{[]byte{16, 129, 24, 2, 'a', 'b'}, 1, api.ErrForm},
		{[]byte{0, 129, 24}, 9, api.ErrForm},
		{[]byte{0, 129, 255, 1}, 9, api.ErrForm},
		// The value, with a name, or an index, ahead.
		{[]byte{64, 1, 'a'}, 9, api.ErrMore},
		{[]byte{64, 1, 'a', 1}, 9, api.ErrMore},
		{[]byte{68}, 9, api.ErrMore},
		{[]byte{68, 2, 'a'}, 1, api.ErrMore},
		{[]byte{17, 255}, 9, api.ErrMore},
		{[]byte{1, 255, 128, 128, 128, 128}, 9, api.ErrForm},
		{[]byte{64, 1, 'a', 2, 'a', 'b'}, 1, api.ErrFull},
		{[]byte{17, 2, 'a', 'b'}, 1, api.ErrFull},
		{[]byte{1, 1, 'a'}, 0, api.ErrFull},
		{[]byte{1, 1, 'a'}, -1, api.ErrFull},
		{[]byte{1, 1, 'a'}, math.MinInt, api.ErrFull},
		{[]byte{0, 1, 'a', 129, 24}, 9, api.ErrForm},
		{[]byte{1, 129, 24}, 9, api.ErrForm},
		{[]byte{1, 132, 255, 255, 255, 255}, 9, api.ErrForm},
	} {
		decodes(t, x.b, x.most, item.Item{}, 0, x.e)
	}
}

// P8.1: each text, not both together, has at most so many bytes.
func TestMost(t *testing.T) {
	for _, squeezed := range []bool{false, true} {
		for kind := kept; kind <= never; kind++ {
			for _, x := range []item.Item{{Kind: kind, Name: "0000", Value: "00000"}, {Kind: kind, Name: "00000", Value: "0"}, {Kind: kind, N: 9, Value: "00000"}} {
				b := laid(x, fixed(squeezed))
				for _, most := range []int{5, 6, 9, 10, api.MaxText, api.MaxText + 1, math.MaxInt} {
					decodes(t, b, most, x, len(b), api.OK)
				}
				for _, most := range []int{4, 3, 0, -1, math.MinInt} {
					decodes(t, b, most, item.Item{}, 0, api.ErrFull)
				}
			}
		}
	}
	// What has no texts is as it is, however few bytes these may have.
	decodes(t, []byte{130}, math.MinInt, item.Item{Kind: indexed, N: 2}, 1, api.OK)
	decodes(t, []byte{32}, -1, item.Item{Kind: size}, 1, api.OK)
	decodes(t, []byte{4, 0}, -1, item.Item{Kind: plain, N: 4}, 2, api.OK)
}

// P8.1: whatever may be asked for, a text has at most 2^16 bytes.
func TestLongTexts(t *testing.T) {
	for _, squeezed := range []bool{false, true} {
		// So many that literal lays out; one more is laid out by hand.
		greatest := strings.Repeat("0", api.MaxText)
		one := item.Item{Kind: kept, Name: greatest, Value: greatest}
		b := laid(one, fixed(squeezed))
		decodes(t, b, api.MaxText, one, len(b), api.OK)
		decodes(t, b, math.MaxInt, one, len(b), api.OK)
		decodes(t, b, api.MaxText-1, item.Item{}, 0, api.ErrFull)
	}
	longer := func(n int) []byte {
		b, _ := prefix.Encode(n, 7, 0)
		return append(b, strings.Repeat("0", n)...)
	}
	for _, n := range []int{api.MaxText + 1, api.MaxText + 2, 1 << 20} {
		for _, most := range []int{api.MaxText, api.MaxText + 1, api.MaxText + 2, 1 << 20, math.MaxInt} {
			decodes(t, append([]byte{64}, append(longer(n), 0)...), most, item.Item{}, 0, api.ErrFull)
			decodes(t, append([]byte{0, 1, 'a'}, longer(n)...), most, item.Item{}, 0, api.ErrFull)
			decodes(t, append([]byte{17}, longer(n)...), most, item.Item{}, 0, api.ErrFull)
		}
	}
	// The code of '0' has 5 bits, all 0: 8 of them are 5 bytes.
	code, _ := prefix.Encode(api.MaxText/8*5+5, 7, 128)
	code = append(code, make([]byte, api.MaxText/8*5+5)...)
	decodes(t, append([]byte{17}, code...), math.MaxInt, item.Item{}, 0, api.ErrFull)
}

// cuts are how many bytes are cut from an item's at most, one by one: of those
// that take long to decode just few.
func cuts(x item.Item) int {
	if len(x.Name)+len(x.Value) > 700 {
		return 9
	}
	return 1000
}

// T1, P8.2: an item comes back from its bytes, its texts plain, squeezed or the
// shorter ones, whatever is behind; cut short anywhere they are ErrMore.
func TestThereAndBack(t *testing.T) {
	for _, x := range items() {
		most := max(len(x.Name), len(x.Value))
		for _, b := range [][]byte{laid(x, literal.Short), laid(x, fixed(false)), laid(x, fixed(true))} {
			decodes(t, b, most, x, len(b), api.OK)
			for _, behind := range [][]byte{{0}, {255, 128, 1}} {
				decodes(t, append(bytes.Clone(b), behind...), most, x, len(b), api.OK)
			}
			for cut := range min(len(b), cuts(x)) {
				decodes(t, b[:cut], most, item.Item{}, 0, api.ErrMore)
				decodes(t, b[:len(b)-1-cut], most, item.Item{}, 0, api.ErrMore)
			}
		}
	}
}

// T1, P8.2: bytes of items, one behind the other, are gone through one by one.
func TestMany(t *testing.T) {
	var b []byte
	var list []item.Item
	for _, x := range items() {
		if len(x.Name)+len(x.Value) > 3000 {
			continue
		}
		one, _ := item.Encode(x)
		list, b = append(list, x), append(b, one...)
	}
	for i, x := range list {
		got, n, e := item.Decode(b, api.MaxText)
		if e != api.OK || got != x {
			t.Fatalf("item %d: %v, %d", i, told(got), e)
		}
		b = b[n:]
	}
	if len(b) != 0 {
		t.Errorf("%d bytes are left", len(b))
	}
}

// some are numbers such as may be anywhere.
var some = []int{math.MinInt, -1, 0, 1, 2, 5, 127, api.MaxText, math.MaxInt}

// P1: whatever bytes there are, each call ends; beside an error all is zero, and
// an item that is answered may be.
func TestNoPanic(t *testing.T) {
	r := rand.New(rand.NewSource(1))
	for i := range 40000 {
		b := make([]byte, r.Intn(12))
		r.Read(b)
		if i%2 == 0 && len(b) > 1 {
			b[0] = byte([]int{64, 0, 16}[r.Intn(3)] + r.Intn(2))
			b[1] = byte(128*r.Intn(2) + r.Intn(len(b)))
		}
		for _, most := range some[i%3:] {
			x, n, e := item.Decode(b, most)
			if e != api.OK && (x != item.Item{} || n != 0) {
				t.Fatalf("%x, %d: %v, %d beside %d", b, most, x, n, e)
			}
			if e == api.OK && (n < 1 || n > len(b) || !item.Right(x) || len(x.Name) > max(most, 0) || len(x.Value) > max(most, 0)) {
				t.Fatalf("%x, %d: %v, %d", b, most, x, n)
			}
		}
	}
	for _, kind := range some {
		for _, n := range some {
			x := item.Item{Kind: kind, N: n, Name: string(rune(r.Intn(200))), Value: "a"}
			if b, e := item.Encode(x); (e == api.OK) != item.Right(x) || (e != api.OK && len(b) != 0) {
				t.Errorf("%v: %x, %d", x, b, e)
			}
		}
	}
}

// P2: the same arguments are answered alike, whatever was asked in between.
func TestSameAgain(t *testing.T) {
	ask := func() string {
		var all strings.Builder
		for _, x := range []item.Item{{N: 127}, {Kind: kept, Name: "302", Value: "no-cache"}, {Kind: never, N: 9, Value: "\x00"}, {Kind: size, N: 4096}, {Kind: 5}} {
			b, e := item.Encode(x)
			got, n, _ := item.Decode(b, 8)
			all.WriteString(string(b) + got.Name + got.Value + string(rune(n)) + string(rune(e)) + string(rune(got.Kind)) + string(rune(got.N)))
		}
		return all.String()
	}
	first := ask()
	item.Encode(item.Item{Kind: -1})
	item.Decode([]byte{128}, 9)
	item.Decode([]byte{64, 1, 'z', 129, 24}, 9)
	if ask() != first {
		t.Error("asked again, it is answered otherwise")
	}
}

// Rule 4: what is handed in stays as it is, what is behind it too, and isn't read.
func TestArgumentsStay(t *testing.T) {
	for _, x := range items() {
		if len(x.Name)+len(x.Value) > 3000 {
			continue
		}
		was := x
		item.Right(x)
		item.Encode(x)
		if x != was {
			t.Fatalf("%v: it was written", was)
		}
		room := append(laid(x, literal.Short), 9, 9, 9, 9)
		before := bytes.Clone(room)
		b := room[:len(room)-4]
		item.Decode(b, 1000)
		item.Decode(b[:len(b)-1], 1000)
		if !bytes.Equal(room, before) {
			t.Fatalf("%v: its bytes were written", x)
		}
	}
	decodes(t, []byte{0, 1, 'a', 1, 'b'}[:4], 9, item.Item{}, 0, api.ErrMore)
	decodes(t, []byte{130}[:0], 9, item.Item{}, 0, api.ErrMore)
}

// Rule 4: what is answered is new memory, and no argument.
func TestNewMemory(t *testing.T) {
	b := []byte{64, 1, 'a', 1, 'b'}
	x, _, _ := item.Decode(b, 9)
	for i := range b {
		b[i] = 'x'
	}
	if x != (item.Item{Kind: kept, Name: "a", Value: "b"}) {
		t.Errorf("%v: it is kept", x)
	}
	for _, x := range []item.Item{{N: 2}, {Kind: kept, Name: "302", Value: "a"}, {Kind: size, N: 4096}} {
		one, _ := item.Encode(x)
		clear(one)
		two, _ := item.Encode(x)
		if !bytes.Equal(two, laid(x, literal.Short)) {
			t.Errorf("%x: it is shared", two)
		}
	}
}
