package block_test

import (
	"bytes"
	"math"
	"math/rand"
	"slices"
	"strconv"
	"strings"
	"testing"

	"gantlet/api"
	"gantlet/block"
	"gantlet/item"
	"gantlet/literal"
	"gantlet/static"
)

// The kinds of items, as the document numbers them.
const (
	indexed = 0
	kept    = 1
	plain   = 2
	never   = 3
	size    = 4
)

// noLimit is one that no list of these tests is above.
const noLimit = math.MaxInt

// list is that of names and values.
func list(texts ...string) []api.Field {
	var l []api.Field
	for i := 0; i < len(texts); i += 2 {
		l = append(l, api.Field{Name: texts[i], Value: texts[i+1]})
	}
	return l
}

// told is a list in short, for what a test says.
func told(l []api.Field) string {
	var b strings.Builder
	for _, f := range l[:min(len(l), 10)] {
		b.WriteString(strconv.QuoteToASCII(f.Name[:min(len(f.Name), 20)]) + ": " + strconv.QuoteToASCII(f.Value[:min(len(f.Value), 20)]) + "; ")
	}
	return b.String() + strconv.Itoa(len(l)) + " fields"
}

// sizeOf is a list's size.
func sizeOf(l []api.Field) int {
	n := 0
	for _, f := range l {
		n += len(f.Name) + len(f.Value) + 32
	}
	return n
}

// bytesOf is the bytes of items.
func bytesOf(l ...item.Item) []byte {
	var b []byte
	for _, x := range l {
		part, e := item.Encode(x)
		if e != api.OK {
			panic("no such item")
		}
		b = append(b, part...)
	}
	return b
}

// join is all parts, one behind another.
func join(parts ...string) []byte { return []byte(strings.Join(parts, "")) }

// with is a decoder with a bound, that has read blocks without an error.
func with(t *testing.T, bound int, blocks ...[]byte) *block.Decoder {
	t.Helper()
	d, e := block.New(bound)
	if e != api.OK || d == nil {
		t.Fatalf("New(%d): %d", bound, e)
	}
	for _, b := range blocks {
		if _, _, e := d.Decode(b, noLimit); e != api.OK {
			t.Fatalf("Decode(%x): %d", b[:min(len(b), 20)], e)
		}
	}
	return d
}

// has tells of a decoder whose table has not just these fields.
func has(t *testing.T, d *block.Decoder, l []api.Field) {
	t.Helper()
	if got := d.Table(); !slices.Equal(got, l) {
		t.Errorf("Table is %s, not %s", told(got), told(l))
	}
	if d.Size() != sizeOf(l) {
		t.Errorf("Size is %d, not %d", d.Size(), sizeOf(l))
	}
}

// reads tells of a block whose list is another one.
func reads(t *testing.T, d *block.Decoder, b []byte, l []api.Field) {
	t.Helper()
	if got, cut, e := d.Decode(b, noLimit); !slices.Equal(got, l) || cut || e != api.OK {
		t.Errorf("Decode(%x..) is %s, %t, %d, not %s", b[:min(len(b), 20)], told(got), cut, e, told(l))
	}
}

// fails tells of a block that is read without an error.
func fails(t *testing.T, d *block.Decoder, b []byte, limit int) {
	t.Helper()
	if got, cut, e := d.Decode(b, limit); len(got) != 0 || cut || e != api.ErrForm {
		t.Errorf("Decode(%x.., %d) is %s, %t, %d", b[:min(len(b), 20)], limit, told(got), cut, e)
	}
}

// model is what a decoder does, by the document's words: its fields are the
// newest one first.
type model struct {
	bound, most int
	table       []api.Field
}

// shrink lets the oldest fields go.
func (m *model) shrink() {
	for sizeOf(m.table) > m.most {
		m.table = m.table[:len(m.table)-1]
	}
}

// named is the field that an index names, if there is one.
func (m *model) named(n int) (api.Field, bool) {
	if n >= 62 {
		if n-62 < len(m.table) {
			return m.table[n-62], true
		}
		return api.Field{}, false
	}
	f, e := static.Get(n)
	return f, e == api.OK
}

// decode is the list of a block, and whether there is no error.
func (m *model) decode(b []byte) ([]api.Field, bool) {
	var l []api.Field
	sizes, begun := 0, false
	for len(b) > 0 {
		x, n, e := item.Decode(b, 1<<16)
		if e != api.OK {
			return nil, false
		}
		b = b[n:]
		if x.Kind == size {
			sizes++
			if begun || sizes > 2 || x.N > m.bound {
				return nil, false
			}
			m.most = x.N
			m.shrink()
			continue
		}
		begun = true
		f := api.Field{Name: x.Name, Value: x.Value}
		if x.N > 0 {
			known, ok := m.named(x.N)
			if !ok {
				return nil, false
			}
			f.Name = known.Name
			if x.Kind == indexed {
				f = known
			}
		}
		if x.Kind == kept {
			m.table = append([]api.Field{f}, m.table...)
			m.shrink()
		}
		l = append(l, f)
	}
	return l, true
}

// agrees tells of a block that a decoder reads otherwise than a model.
func agrees(t *testing.T, d *block.Decoder, m *model, b []byte, limit int) {
	t.Helper()
	l, ok := m.decode(b)
	cut, errno := ok && sizeOf(l) > limit, api.OK
	if !ok {
		errno = api.ErrForm
	}
	if cut {
		l = nil
	}
	got, isCut, e := d.Decode(b, limit)
	if !slices.Equal(got, l) || isCut != cut || e != errno {
		t.Errorf("Decode(%x.., %d) is %s, %t, %d, not %s, %t, %d", b[:min(len(b), 40)], limit, told(got), isCut, e, told(l), cut, errno)
	}
	has(t, d, m.table)
}

// someText is some text, mostly a short one of few kinds.
func someText(r *rand.Rand) string {
	if r.Intn(3) > 0 {
		return []string{"", "a", "b", ":path", "cookie", "x-y", "GET", "/"}[r.Intn(8)]
	}
	b := make([]byte, r.Intn(60))
	r.Read(b)
	return string(b)
}

// someItems are items as a block may have them, mostly.
func someItems(r *rand.Rand, bound int) []item.Item {
	var l []item.Item
	for range r.Intn(3) {
		l = append(l, item.Item{Kind: size, N: r.Intn(bound + 1)})
	}
	for range r.Intn(8) {
		switch kind := r.Intn(4); {
		case r.Intn(60) == 0:
			l = append(l, item.Item{Kind: size, N: r.Intn(bound + 40)})
		case kind == indexed:
			l = append(l, item.Item{N: 1 + r.Intn(64)})
		case r.Intn(2) == 0:
			l = append(l, item.Item{Kind: kind, N: 1 + r.Intn(64), Value: someText(r)})
		default:
			l = append(l, item.Item{Kind: kind, Name: someText(r), Value: someText(r)})
		}
	}
	return l
}

// someList is a list of fields, of which some are static, or have such a name.
func someList(r *rand.Rand) []api.Field {
	l := make([]api.Field, r.Intn(10))
	for i := range l {
		f, _ := static.Get(1 + r.Intn(static.Len))
		switch r.Intn(3) {
		case 0:
			f.Value = someText(r)
		case 1:
			f = api.Field{Name: someText(r), Value: someText(r)}
		}
		l[i] = f
	}
	return l
}

// step is a block, and what comes of it.
type step struct {
	b           []byte
	list, table []api.Field
}

// requests are three blocks for one decoder, plain and squeezed, as they stand in
// RFC 7541 (C.3, C.4).
func requests(squeezed bool) []step {
	blocks := [][]byte{
		join("\x82\x86\x84\x41\x0f", "www.example.com"),
		join("\x82\x86\x84\xbe\x58\x08", "no-cache"),
		join("\x82\x87\x85\xbf\x40\x0a", "custom-key", "\x0c", "custom-value"),
	}
	if squeezed {
		blocks = [][]byte{
			join("\x82\x86\x84\x41\x8c\xf1\xe3\xc2\xe5\xf2\x3a\x6b\xa0\xab\x90\xf4\xff"),
			join("\x82\x86\x84\xbe\x58\x86\xa8\xeb\x10\x64\x9c\xbf"),
			join("\x82\x87\x85\xbf\x40\x88\x25\xa8\x49\xe9\x5b\xa9\x7d\x7f\x89\x25\xa8\x49\xe9\x5b\xb8\xe8\xb4\xbf"),
		}
	}
	host, cache, custom := []string{":authority", "www.example.com"}, []string{"cache-control", "no-cache"}, []string{"custom-key", "custom-value"}
	begin := []string{":method", "GET", ":scheme", "http", ":path", "/"}
	other := []string{":method", "GET", ":scheme", "https", ":path", "/index.html"}
	return []step{
		{blocks[0], list(slices.Concat(begin, host)...), list(host...)},
		{blocks[1], list(slices.Concat(begin, host, cache)...), list(slices.Concat(cache, host)...)},
		{blocks[2], list(slices.Concat(other, host, custom)...), list(slices.Concat(custom, cache, host)...)},
	}
}

// responses are three blocks for one decoder with the bound 256, as they stand in
// RFC 7541 (C.5): fields go.
func responses() []step {
	const date, later = "Mon, 21 Oct 2013 20:13:21 GMT", "Mon, 21 Oct 2013 20:13:22 GMT"
	const url, cookie = "https://www.example.com", "foo=ASDJKHQKBZXOQWEOPIUAXQWEOIU; max-age=3600; version=1"
	return []step{
		{
			join("\x48\x03302\x58\x07private\x61\x1d", date, "\x6e\x17", url),
			list(":status", "302", "cache-control", "private", "date", date, "location", url),
			list("location", url, "date", date, "cache-control", "private", ":status", "302"),
		},
		{
			join("\x48\x03307\xc1\xc0\xbf"),
			list(":status", "307", "cache-control", "private", "date", date, "location", url),
			list(":status", "307", "location", url, "date", date, "cache-control", "private"),
		},
		{
			join("\x88\xc1\x61\x1d", later, "\xc0\x5a\x04gzip\x77\x38", cookie),
			list(":status", "200", "cache-control", "private", "date", later, "location", url, "content-encoding", "gzip", "set-cookie", cookie),
			list("set-cookie", cookie, "content-encoding", "gzip", "date", later),
		},
	}
}

// P9.1: known blocks, and what comes into the table.
func TestKnown(t *testing.T) {
	for _, x := range []struct {
		bound int
		steps []step
	}{
		{4096, []step{{[]byte{130, 68, 1, 97}, list(":method", "GET", ":path", "a"), list(":path", "a")}}},
		{4096, requests(false)},
		{4096, requests(true)},
		{256, responses()},
	} {
		d := with(t, x.bound)
		has(t, d, nil)
		for _, s := range x.steps {
			reads(t, d, s.b, s.list)
			has(t, d, s.table)
		}
	}
}

// P9.1: which bounds there may be, and what they let come.
func TestNew(t *testing.T) {
	for _, bound := range []int{0, 1, 31, 32, 33, 100, 4095, 4096} {
		d := with(t, bound)
		has(t, d, nil)
		fails(t, d, bytesOf(item.Item{Kind: size, N: bound + 1}), noLimit)
		reads(t, d, bytesOf(item.Item{Kind: size, N: bound}), nil)
	}
	for _, bound := range []int{-1, -4096, 4097, 1 << 32, math.MinInt, math.MaxInt} {
		if d, e := block.New(bound); d != nil || e != api.ErrArg {
			t.Errorf("New(%d): %d", bound, e)
		}
	}
	none := item.Item{Kind: kept}
	d := with(t, 31, bytesOf(none))
	has(t, d, nil)
	d = with(t, 32, bytesOf(none))
	has(t, d, list("", ""))
	d = with(t, 4096, bytesOf(none, item.Item{Kind: kept, Name: "x", Value: strings.Repeat("y", 4096-33)}))
	has(t, d, list("x", strings.Repeat("y", 4096-33)))
	d = with(t, 4096, bytesOf(none, item.Item{Kind: kept, Name: "x", Value: strings.Repeat("y", 4096-32)}))
	has(t, d, nil)
}

// P9.1: an index names a static field, or one of the table; what it doesn't name
// is an error, whatever the kind.
func TestIndexes(t *testing.T) {
	old := []item.Item{{Kind: kept, Name: "a", Value: "1"}, {Kind: kept, Name: "b", Value: "2"}, {Kind: kept, Name: "c", Value: "3"}}
	ahead := bytesOf(old...)
	for n := 1; n <= 64; n++ {
		f, _ := static.Get(n)
		if n > 61 {
			f = list("c", "3", "b", "2", "a", "1")[n-62]
		}
		reads(t, with(t, 4096, ahead), bytesOf(item.Item{N: n}), []api.Field{f})
		f.Value = "new"
		for _, kind := range []int{kept, plain, never} {
			d := with(t, 4096, ahead)
			reads(t, d, bytesOf(item.Item{Kind: kind, N: n, Value: "new"}), []api.Field{f})
			table := list("c", "3", "b", "2", "a", "1")
			if kind == kept {
				table = append([]api.Field{f}, table...)
			}
			has(t, d, table)
		}
	}
	for _, n := range []int{65, 66, 126, 127, 4096, api.MaxInt} {
		d := with(t, 4096, ahead)
		for kind := indexed; kind <= never; kind++ {
			fails(t, d, bytesOf(item.Item{Kind: kind, N: n}), noLimit)
		}
		has(t, d, list("c", "3", "b", "2", "a", "1"))
	}
	d := with(t, 4096)
	reads(t, d, bytesOf(item.Item{N: 61}), list("www-authenticate", ""))
	fails(t, d, bytesOf(item.Item{N: 62}), noLimit)
	fails(t, d, []byte{128}, noLimit)
}

// P9.1: an item has a name of its own, if its index is 0; just what is KEPT comes
// into the table.
func TestNames(t *testing.T) {
	for _, kind := range []int{kept, plain, never} {
		for _, l := range [][]api.Field{
			list("", ""), list("a", ""), list("", "b"), list("a", "b"), list(":method", "GET"), list("\x00\xff", "\n"),
			list("X", "302"), list(strings.Repeat("n", 1000), strings.Repeat("0", 1000)),
		} {
			d := with(t, 4096)
			reads(t, d, bytesOf(item.Item{Kind: kind, Name: l[0].Name, Value: l[0].Value}), l)
			if kind != kept {
				l = nil
			}
			has(t, d, l)
		}
	}
	// A name is that of a field which goes as the new one comes.
	d := with(t, 40, bytesOf(item.Item{Kind: kept, Name: "name", Value: "1"}))
	reads(t, d, bytesOf(item.Item{Kind: kept, N: 62, Value: "22"}, item.Item{N: 62}), list("name", "22", "name", "22"))
	has(t, d, list("name", "22"))
	// The same field may be there twice.
	d = with(t, 100)
	reads(t, d, bytesOf(item.Item{Kind: kept, N: 2, Value: "GET"}, item.Item{Kind: kept, N: 2, Value: "GET"}), list(":method", "GET", ":method", "GET"))
	has(t, d, list(":method", "GET", ":method", "GET"))
}

// P9.1: a text is plain or squeezed, and has at most 2^16 bytes.
func TestTexts(t *testing.T) {
	for _, squeezed := range []bool{false, true} {
		for _, letter := range []string{"0", "\n"} {
			whole, _ := literal.Encode(strings.Repeat(letter, 1<<16), squeezed)
			for _, b := range [][]byte{append([]byte{0, 0}, whole...), append(append([]byte{64}, whole...), 0), append([]byte{31, 0}, whole...)} {
				d := with(t, 4096)
				if l, cut, e := d.Decode(b, noLimit); len(l) != 1 || cut || e != api.OK || len(l[0].Name)%(1<<16)+len(l[0].Value)%(1<<16) > 20 {
					t.Errorf("%x..: %s, %t, %d", b[:6], told(l), cut, e)
				}
			}
		}
	}
	long := bytes.Repeat([]byte{'0'}, 1<<16+1)
	length := []byte{127, 130, 255, 3}
	for _, b := range [][]byte{
		slices.Concat([]byte{0, 0}, length, long), slices.Concat([]byte{0}, length, long, []byte{0}),
		slices.Concat([]byte{64}, length, long, []byte{0}), slices.Concat([]byte{65}, length, long),
		slices.Concat([]byte{31, 0}, length, long),
	} {
		d := with(t, 4096)
		fails(t, d, b, noLimit)
		has(t, d, nil)
	}
	length[1]--
	reads(t, with(t, 0), slices.Concat([]byte{1}, length, long[1:]), list(":authority", string(long[1:])))
}

// P9.1: sizes stand at a block's beginning alone, twice at most, and are at most
// the bound.
func TestSizes(t *testing.T) {
	ahead := bytesOf(item.Item{Kind: kept, Name: "a", Value: "1"}, item.Item{Kind: kept, Name: "b", Value: "2"})
	all, newest := list("b", "2", "a", "1"), list("b", "2")
	sized := func(sizes ...int) []byte {
		var b []byte
		for _, n := range sizes {
			b = append(b, bytesOf(item.Item{Kind: size, N: n})...)
		}
		return b
	}
	for _, x := range []struct {
		sizes []int
		table []api.Field
		wrong bool
	}{
		{nil, all, false},
		{[]int{100}, all, false}, {[]int{68}, all, false}, {[]int{67}, newest, false}, {[]int{34}, newest, false}, {[]int{33}, nil, false}, {[]int{0}, nil, false},
		{[]int{100, 100}, all, false}, {[]int{0, 100}, nil, false}, {[]int{100, 0}, nil, false}, {[]int{34, 100}, newest, false},
		{[]int{101}, all, true}, {[]int{api.MaxInt}, all, true}, {[]int{67, 101}, newest, true}, {[]int{101, 0}, all, true},
		{[]int{100, 100, 100}, all, true}, {[]int{100, 34, 0}, newest, true}, {[]int{68, 34, 101}, newest, true}, {[]int{0, 0, 0, 0}, nil, true},
	} {
		for _, behind := range [][]byte{nil, {130}} {
			d := with(t, 100, ahead)
			b := append(sized(x.sizes...), behind...)
			switch {
			case x.wrong:
				fails(t, d, b, noLimit)
			case len(behind) > 0:
				reads(t, d, b, list(":method", "GET"))
			default:
				reads(t, d, b, nil)
			}
			has(t, d, x.table)
		}
	}
	// Behind a field there is none, not even the first one, nor one that a table has.
	for _, b := range [][]byte{{130}, {190}, {1, 0}, {17, 0}, {0, 1, 'x', 0}} {
		for _, n := range []int{0, 34, 100} {
			d := with(t, 100, ahead)
			fails(t, d, append(slices.Clone(b), sized(n)...), noLimit)
			fails(t, d, slices.Concat(sized(100), b, sized(n)), noLimit)
			fails(t, d, append(slices.Clone(b), sized(n)...), 0)
			has(t, d, all)
		}
	}
}

// P9.1: a table's most stays what the last size made it, block by block, and may
// be more again; each block may begin with two.
func TestMost(t *testing.T) {
	a, b, c := item.Item{Kind: kept, Name: "a", Value: "1"}, item.Item{Kind: kept, Name: "b", Value: "2"}, item.Item{Kind: kept, Name: "c", Value: "3"}
	d := with(t, 100, bytesOf(a, b))
	reads(t, d, bytesOf(item.Item{Kind: size, N: 67}), nil)
	reads(t, d, bytesOf(c), list("c", "3"))
	has(t, d, list("c", "3"))
	reads(t, d, bytesOf(item.Item{Kind: size}, item.Item{Kind: size, N: 68}, a), list("a", "1"))
	reads(t, d, bytesOf(item.Item{Kind: size, N: 68}, item.Item{Kind: size, N: 100}, b, c), list("b", "2", "c", "3"))
	has(t, d, list("c", "3", "b", "2"))
	reads(t, d, bytesOf(item.Item{Kind: size}), nil)
	reads(t, d, bytesOf(a), list("a", "1"))
	has(t, d, nil)
	fails(t, d, bytesOf(item.Item{Kind: size, N: 101}), noLimit)
	reads(t, d, bytesOf(item.Item{Kind: size, N: 100}, a), list("a", "1"))
	has(t, d, list("a", "1"))
}

// P9.1: a block with an item that has an error, or names nothing, is an error; the
// table stays as the items ahead made it.
func TestErrors(t *testing.T) {
	ahead := bytesOf(item.Item{Kind: size, N: 70}, item.Item{Kind: kept, Name: "a", Value: "1"}, item.Item{N: 2}, item.Item{Kind: kept, N: 62, Value: "2"})
	wrong := [][]byte{
		{64}, {0}, {16}, {63}, {255}, {128}, {192}, {127}, {127, 1, 0}, {0, 1}, {0, 1, 'x'}, {0, 0}, {0, 0, 1}, {1}, {1, 1},
		{0, 0, 129, 24}, {0, 0, 129, 255}, {0, 129, 24, 0}, {64, 129, 24, 0}, {255, 255, 255, 255, 127}, {1, 127, 255, 255, 255, 127},
		{64, 1, 'x', 5, 'y', 'y', 'y', 'y'}, {126 + 1, 2, 1, 'x'}, {31, 60, 0}, {64, 127},
	}
	for _, b := range wrong {
		for _, limit := range []int{noLimit, 100, 0, -1} {
			d := with(t, 100)
			fails(t, d, b, limit)
			has(t, d, nil)
			// What stands behind an error is not read.
			fails(t, d, append(slices.Clone(ahead), b...), limit)
			has(t, d, list("a", "2", "a", "1"))
			fails(t, d, slices.Concat([]byte{192}, ahead, b), limit)
			has(t, d, list("a", "2", "a", "1"))
			reads(t, d, []byte{191}, list("a", "1"))
		}
	}
}

// P9.1: a block that ends within an item is an error, at each place.
func TestShort(t *testing.T) {
	l := []item.Item{{Kind: size, N: 70}, {Kind: kept, Name: "a", Value: "302"}, {N: 2}, {Kind: never, N: 62, Value: "yes"}, {Kind: plain, Name: "b", Value: "c"}}
	ends := map[int]bool{}
	for i := range len(l) + 1 {
		ends[len(bytesOf(l[:i]...))] = true
	}
	b := bytesOf(l...)
	for n := range len(b) + 1 {
		_, _, e := with(t, 100).Decode(b[:n], noLimit)
		if ends[n] != (e == api.OK) || !ends[n] != (e == api.ErrForm) {
			t.Errorf("%d bytes: %d", n, e)
		}
	}
}

// P9.1: a list is cut off, if its size is above the limit; the table is as if it
// had not been.
func TestLimit(t *testing.T) {
	l := []item.Item{{Kind: size, N: 80}, {N: 2}, {Kind: kept, Name: "a", Value: "302"}, {Kind: never, N: 62, Value: "yes"}, {N: 62}, {Kind: plain, Name: "b", Value: "c"}, {Kind: kept, N: 1, Value: "d"}}
	want := list(":method", "GET", "a", "302", "a", "yes", "a", "302", "b", "c", ":authority", "d")
	whole := sizeOf(want)
	for _, limit := range []int{math.MinInt, math.MinInt + 1, -1, 0, 1, 31, 41, 42, 43, 78, 79, whole - 33, whole - 32, whole - 1, whole, whole + 1, 65535, math.MaxInt - 1, math.MaxInt} {
		d := with(t, 100)
		got, cut, e := d.Decode(bytesOf(l...), limit)
		if cut != (limit < whole) || e != api.OK {
			t.Errorf("%d: %t, %d", limit, cut, e)
		}
		if cut && len(got) != 0 || !cut && !slices.Equal(got, want) {
			t.Errorf("%d: %s", limit, told(got))
		}
		has(t, d, list(":authority", "d", "a", "302"))
		fails(t, with(t, 100), append(bytesOf(l...), 32), limit)
	}
	// The size of no fields is 0.
	for _, b := range [][]byte{nil, {}, {32}, {32, 32}} {
		for _, limit := range []int{math.MinInt, -1, 0, 1} {
			if got, cut, e := with(t, 0).Decode(b, limit); len(got) != 0 || cut != (limit < 0) || e != api.OK {
				t.Errorf("%x, %d: %s, %t, %d", b, limit, told(got), cut, e)
			}
		}
	}
	// A short field behind a long one doesn't come to a list that is cut off.
	b := bytesOf(item.Item{Kind: plain, Name: "a", Value: "0123456789"}, item.Item{Kind: plain})
	if got, cut, e := with(t, 0).Decode(b, 40); len(got) != 0 || !cut || e != api.OK {
		t.Errorf("%s, %t, %d", told(got), cut, e)
	}
}

// P9.1: what a long block tells, though most of its list is cut off.
func TestLong(t *testing.T) {
	f := item.Item{Kind: kept, Name: "n", Value: strings.Repeat("0", 4000)}
	b := append(bytesOf(f), bytes.Repeat([]byte{190}, 1<<18)...)
	want := list("n", f.Value)
	for _, limit := range []int{0, 4033, 65535, 1 << 29} {
		d := with(t, 4096)
		if l, cut, e := d.Decode(b, limit); len(l) != 0 || !cut || e != api.OK {
			t.Errorf("%d: %s, %t, %d", limit, told(l), cut, e)
		}
		has(t, d, want)
	}
	if l, cut, e := with(t, 4096).Decode(b, (1<<18+1)*4033); len(l) != 1<<18+1 || cut || e != api.OK || l[1<<18] != want[0] {
		t.Errorf("%s, %t, %d", told(l), cut, e)
	}
}

// P9.1: a nil decoder has nothing.
func TestNil(t *testing.T) {
	var d *block.Decoder
	for _, b := range [][]byte{nil, {130}, {192}, {64}} {
		for _, limit := range []int{-1, 0, noLimit} {
			if l, cut, e := d.Decode(b, limit); len(l) != 0 || cut || e != api.ErrArg {
				t.Errorf("%x: %s, %t, %d", b, told(l), cut, e)
			}
		}
	}
	if len(d.Table()) != 0 || d.Size() != 0 || d.Clone() != nil {
		t.Error("a nil decoder has something")
	}
}

// P9.1: any blocks, even such as have errors, are read as the document says.
func TestModel(t *testing.T) {
	r := rand.New(rand.NewSource(9))
	for range 400 {
		bound := []int{0, 33, 40, 70, 100, 150, 300, 4096}[r.Intn(8)]
		d, m := with(t, bound), &model{bound: bound, most: bound}
		for range 12 {
			b := bytesOf(someItems(r, bound)...)
			switch r.Intn(8) {
			case 0:
				b = b[:r.Intn(len(b)+1)]
			case 1:
				if len(b) > 0 {
					b[r.Intn(len(b))] = byte(r.Intn(256))
				}
			case 2:
				b = make([]byte, r.Intn(12))
				r.Read(b)
			}
			agrees(t, d, m, b, []int{noLimit, 65535, 200, 100, 40, 0, -1}[r.Intn(7)])
		}
	}
}

// P9.1: known lists, and their blocks.
func TestEncode(t *testing.T) {
	for _, x := range []struct {
		l []api.Field
		b []byte
	}{
		{nil, nil},
		{list(":method", "GET"), []byte{130}},
		{list(":method", "GET", ":method", "GET", "via", ""), []byte{130, 130, 188}},
		{list(":method", "PUT"), []byte{2, 3, 'P', 'U', 'T'}},
		{list(":status", "302"), []byte{8, 130, 100, 2}},
		{list("accept-language", ""), []byte{145}},
		{list("www-authenticate", "\x00"), []byte{15, 46, 1, 0}},
		{list("accept", "a"), []byte{15, 4, 1, 'a'}},
		{list(":authority", "", "x", "y"), []byte{129, 0, 1, 'x', 1, 'y'}},
		{list("", ""), []byte{0, 0, 0}},
		{list("", "GET"), []byte{0, 0, 3, 'G', 'E', 'T'}},
		{list("Via", ""), []byte{0, 3, 'V', 'i', 'a', 0}},
		{list("\x00", "\x01"), []byte{0, 1, 0, 1, 1}},
	} {
		for _, first := range []bool{false, true} {
			want := x.b
			if first {
				want = append([]byte{32}, want...)
			}
			if b, e := block.Encode(x.l, first); !bytes.Equal(b, want) || e != api.OK {
				t.Errorf("Encode(%s, %t) is %x, %d, not %x", told(x.l), first, b, e, want)
			}
		}
	}
}

// P9.1: each static field is INDEXED; with another value it is PLAIN, with the
// least index of its name; with another name, that stands there itself.
func TestEncodeStatic(t *testing.T) {
	least := map[string]int{}
	for i := 1; i <= static.Len; i++ {
		f, _ := static.Get(i)
		if _, ok := least[f.Name]; !ok {
			least[f.Name] = i
		}
		for _, x := range []struct {
			f api.Field
			i item.Item
		}{
			{f, item.Item{N: i}},
			{api.Field{Name: f.Name, Value: "\xff"}, item.Item{Kind: plain, N: least[f.Name], Value: "\xff"}},
			{api.Field{Name: f.Name + "\xff", Value: f.Value}, item.Item{Kind: plain, Name: f.Name + "\xff", Value: f.Value}},
		} {
			if b, e := block.Encode([]api.Field{x.f}, false); !bytes.Equal(b, bytesOf(x.i)) || e != api.OK {
				t.Errorf("%v: %x, %d", x.f, b, e)
			}
		}
	}
}

// P9.1: a list with a text of more than 2^16 bytes has no block, wherever it stands.
func TestEncodeLong(t *testing.T) {
	whole, long := strings.Repeat("\n", 1<<16), strings.Repeat("0", 1<<16+1)
	for _, f := range list(long, "", "", long, "a", long, long, "a", long, long, whole, long, long, whole, ":path", long, long, "GET") {
		for _, first := range []bool{false, true} {
			for _, l := range [][]api.Field{{f}, append(list("a", "b", ":method", "GET"), f), append([]api.Field{f}, list("a", "b")...)} {
				if b, e := block.Encode(l, first); len(b) != 0 || e != api.ErrArg {
					t.Errorf("%s: %d bytes, %d", told(l), len(b), e)
				}
			}
		}
	}
	l := list(whole, "", "", whole, whole, whole, ":path", whole, whole, "GET")
	b, e := block.Encode(l, true)
	if e != api.OK {
		t.Errorf("Encode: %d", e)
	}
	reads(t, with(t, 4096), b, l)
}

// P9.1: a list's block lets no table change, but by a size 0, if it is the first.
func TestEncodeKeeps(t *testing.T) {
	ahead := bytesOf(item.Item{Kind: kept, Name: "a", Value: "1"}, item.Item{Kind: kept, Name: "b", Value: "2"})
	r := rand.New(rand.NewSource(10))
	for range 200 {
		l := append(someList(r), list("a", "1", "b", "2", "a", "2")...)
		d := with(t, 100, ahead)
		b, _ := block.Encode(l, false)
		reads(t, d, b, l)
		has(t, d, list("b", "2", "a", "1"))
		b, _ = block.Encode(l, true)
		reads(t, d, b, l)
		has(t, d, nil)
		reads(t, d, ahead, list("a", "1", "b", "2"))
		has(t, d, nil)
	}
}

// P9.2, T1: a list is that of its block, in any decoder; above a limit it is cut off.
func TestThereAndBack(t *testing.T) {
	r := rand.New(rand.NewSource(11))
	for range 300 {
		bound := r.Intn(4097)
		d := with(t, bound)
		for range 5 {
			d.Decode(bytesOf(someItems(r, bound)...), r.Intn(200))
			l := someList(r)
			b, e := block.Encode(l, r.Intn(2) == 0)
			if e != api.OK {
				t.Fatalf("Encode(%s): %d", told(l), e)
			}
			c := d.Clone()
			if got, cut, e := c.Decode(b, sizeOf(l)); !slices.Equal(got, l) || cut || e != api.OK {
				t.Errorf("%s came back as %s, %t, %d", told(l), told(got), cut, e)
			}
			if got, cut, e := d.Decode(b, sizeOf(l)-1); len(got) != 0 || !cut || e != api.OK {
				t.Errorf("%s came back as %s, %t, %d", told(l), told(got), cut, e)
			}
			has(t, d, c.Table())
		}
	}
}

// P9.2: a block is read alike whatever the limit: errors, tables, and what later
// blocks tell.
func TestAlike(t *testing.T) {
	r := rand.New(rand.NewSource(12))
	for range 200 {
		bound := r.Intn(300)
		one, other := with(t, bound), with(t, bound)
		for range 10 {
			b := bytesOf(someItems(r, bound)...)
			_, _, e := one.Decode(b, noLimit)
			if _, cut, f := other.Decode(b, -1); e != f || cut != (f == api.OK) {
				t.Errorf("%x: %d, %d, %t", b, e, f, cut)
			}
			has(t, other, one.Table())
		}
	}
}

// P9.2: what is read in a clone changes nothing, nor does a clone change by what
// is read in the other one; both read on alike.
func TestClone(t *testing.T) {
	ahead := bytesOf(item.Item{Kind: size, N: 70}, item.Item{Kind: kept, Name: "a", Value: "1"}, item.Item{Kind: kept, Name: "b", Value: "2"})
	all := list("b", "2", "a", "1")
	for _, b := range [][]byte{
		bytesOf(item.Item{Kind: kept, Name: "c"}), {32}, {32, 192}, {190}, nil, {64, 0, 0, 64}, {32, 63, 69}, {32, 64, 0, 0},
		bytesOf(item.Item{Kind: size, N: 100}, item.Item{Kind: kept, N: 62, Value: "c"}),
	} {
		d := with(t, 100, ahead)
		c := d.Clone()
		has(t, c, all)
		c.Decode(b, noLimit)
		has(t, d, all)
		m := &model{bound: 100, most: 70, table: all}
		c = d.Clone()
		agrees(t, d, m, b, noLimit)
		has(t, c, all)
		// The most, and the bound, are a clone's too.
		reads(t, c, bytesOf(item.Item{Kind: kept, N: 63, Value: "wxyz"}), list("a", "wxyz"))
		has(t, c, list("a", "wxyz"))
		fails(t, c, bytesOf(item.Item{Kind: size, N: 101}), noLimit)
		reads(t, c, bytesOf(item.Item{Kind: size, N: 100}, item.Item{Kind: kept, Name: "d"}), list("d", ""))
		has(t, c, list("d", "", "a", "wxyz"))
		agrees(t, d, m, []byte{190, 191}, noLimit)
	}
}

// P1: whatever bytes there are, each call ends.
func TestBytes(t *testing.T) {
	r := rand.New(rand.NewSource(13))
	d, m := with(t, 128), &model{bound: 128, most: 128}
	for a := range 256 {
		for b := range 256 {
			agrees(t, d, m, []byte{byte(a), byte(b)}, noLimit)
		}
	}
	for range 20000 {
		b := make([]byte, r.Intn(20))
		r.Read(b)
		agrees(t, d, m, b, r.Intn(200)-20)
	}
}

// P2: arguments stay what they are, and are not kept; answers are new memory; what
// is behind a list's length is neither read nor written.
func TestMemory(t *testing.T) {
	behind := []byte{64, 1, 'a', 1, 'b', 190, 192, 32}
	b := behind[:6]
	d := with(t, 100)
	l, _, e := d.Decode(b, noLimit)
	if e != api.OK || !bytes.Equal(behind, []byte{64, 1, 'a', 1, 'b', 190, 192, 32}) {
		t.Errorf("%d, %x", e, behind)
	}
	clear(b)
	if !slices.Equal(l, list("a", "b", "a", "b")) {
		t.Errorf("Decode: %s", told(l))
	}
	clear(l)
	table := d.Table()
	if !slices.Equal(table, list("a", "b")) {
		t.Errorf("Table: %s", told(table))
	}
	clear(table)
	has(t, d, list("a", "b"))
	reads(t, d, []byte{190, 190}, list("a", "b", "a", "b"))

	fields := list("a", "b", ":method", "GET", "x", "y")
	one, _ := block.Encode(fields[:2], false)
	other, _ := block.Encode(fields[:2], false)
	clear(one)
	if !bytes.Equal(other, []byte{0, 1, 'a', 1, 'b', 130}) || !slices.Equal(fields, list("a", "b", ":method", "GET", "x", "y")) {
		t.Errorf("Encode: %x, %s", other, told(fields))
	}
}

// P2: the same calls on decoders of the same kind answer the same.
func TestAgain(t *testing.T) {
	var runs [2]string
	for i := range runs {
		r := rand.New(rand.NewSource(14))
		d := with(t, 150)
		for range 300 {
			l, cut, e := d.Decode(bytesOf(someItems(r, 150)...), r.Intn(300))
			runs[i] += told(l) + strconv.FormatBool(cut) + strconv.Itoa(int(e)) + told(d.Table())
			b, e := block.Encode(l, cut)
			runs[i] += string(b) + strconv.Itoa(int(e))
		}
	}
	if runs[0] != runs[1] {
		t.Error("not the same again")
	}
}
