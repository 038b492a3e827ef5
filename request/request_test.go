package request_test

import (
	"math/rand"
	"regexp"
	"slices"
	"strconv"
	"strings"
	"testing"

	"gantlet/api"
	"gantlet/request"
)

// list is one of names and values, in turn.
func list(texts ...string) []api.Field {
	var l []api.Field
	for i := 0; i < len(texts); i += 2 {
		l = append(l, api.Field{Name: texts[i], Value: texts[i+1]})
	}
	return l
}

// join is one list of several.
func join(lists ...[]api.Field) []api.Field { return slices.Concat(lists...) }

// get is a request, with more fields behind.
func get(more ...string) []api.Field {
	return join(list(":method", "GET", ":scheme", "https", ":path", "/"), list(more...))
}

// shapes are the three that a list may have, each with what makes a list such.
func shapes() []shape {
	return []shape{
		{"Request", request.Request, get()},
		{"CONNECT", request.Request, list(":method", "CONNECT", ":authority", "a:1")},
		{"Trailers", request.Trailers, nil},
		{"Response", request.Response, list(":status", "200")},
	}
}

type shape struct {
	name  string
	is    func([]api.Field) bool
	ahead []api.Field
}

// is tells whether a list is answered with just that.
func is(t *testing.T, s shape, l []api.Field, want bool) {
	t.Helper()
	if got := s.is(l); got != want {
		t.Errorf("%s(%q) is %t", s.name, l, got)
	}
}

// asks tells whether a list is a request, or isn't.
func asks(t *testing.T, l []api.Field, want bool) {
	t.Helper()
	is(t, shapes()[0], l, want)
}

// The document's words, told again.
var (
	tokens  = regexp.MustCompile("^[A-Za-z0-9!#$%&'*+\\-.^_|~\x60]+$")
	names   = regexp.MustCompile("^[a-z0-9!#$%&'*+\\-.^_|~\x60]+$")
	lengths = regexp.MustCompile(`^[0-9]{1,15}$`)
	states  = regexp.MustCompile(`^[2-5][0-9][0-9]$`)
)

// mayBeValue tells whether a value may be, by its bytes.
func mayBeValue(s string) bool {
	return !strings.ContainsAny(s, "\x00\n\r") && strings.Trim(s, "\t ") == s
}

// barred are names that no ordinary field has.
var barred = []string{"connection", "keep-alive", "proxy-connection", "transfer-encoding", "upgrade"}

// ordinaries tells whether all fields are ordinary, and their lengths agree.
func ordinaries(l []api.Field) bool {
	told := ""
	for _, f := range l {
		if !names.MatchString(f.Name) || !mayBeValue(f.Value) || slices.Contains(barred, f.Name) || f.Name == "te" && f.Value != "trailers" {
			return false
		}
		if f.Name != "content-length" {
			continue
		}
		same := "x" + strings.TrimLeft(f.Value, "0")
		if !lengths.MatchString(f.Value) || told != "" && told != same {
			return false
		}
		told = same
	}
	return true
}

// values are those of the fields of a name.
func values(l []api.Field, name string) []string {
	var all []string
	for _, f := range l {
		if f.Name == name {
			all = append(all, f.Value)
		}
	}
	return all
}

// cut is a list's beginning, with names that begin so, and what is behind.
func cut(l []api.Field) ([]api.Field, []api.Field) {
	n := slices.IndexFunc(l, func(f api.Field) bool { return f.Name == "" || f.Name[0] != ':' })
	if n < 0 {
		n = len(l)
	}
	return l[:n], l[n:]
}

// isRequest tells whether a list is one, told again.
func isRequest(l []api.Field) bool {
	ahead, behind := cut(l)
	methods, schemes, paths, authorities := values(ahead, ":method"), values(ahead, ":scheme"), values(ahead, ":path"), values(ahead, ":authority")
	known := len(methods) + len(schemes) + len(paths) + len(authorities)
	if known != len(ahead) || len(methods) != 1 || len(schemes) > 1 || len(paths) > 1 || len(authorities) > 1 {
		return false
	}
	for _, f := range ahead {
		if !mayBeValue(f.Value) {
			return false
		}
	}
	if !tokens.MatchString(methods[0]) || !ordinaries(behind) {
		return false
	}
	if methods[0] == "CONNECT" {
		return schemes == nil && paths == nil && len(authorities) == 1 && authorities[0] != ""
	}
	return len(schemes) == 1 && schemes[0] != "" && len(paths) == 1 && paths[0] != ""
}

// isResponse tells whether a list is one, told again.
func isResponse(l []api.Field) bool {
	return len(l) > 0 && l[0].Name == ":status" && states.MatchString(l[0].Value) && ordinaries(l[1:])
}

// lengthOf is a list's, told again.
func lengthOf(l []api.Field) int {
	all := values(l, "content-length")
	if len(all) == 0 || !lengths.MatchString(all[0]) {
		return -1
	}
	n, _ := strconv.Atoi(all[0])
	return n
}

// agrees tells whether a list is answered as it is told again.
func agrees(t *testing.T, l []api.Field) {
	t.Helper()
	before := slices.Clone(l)
	for range 2 {
		if got, want := request.Request(l), isRequest(l); got != want {
			t.Errorf("Request(%q) is %t", l, got)
		}
		if got, want := request.Trailers(l), ordinaries(l); got != want {
			t.Errorf("Trailers(%q) is %t", l, got)
		}
		if got, want := request.Response(l), isResponse(l); got != want {
			t.Errorf("Response(%q) is %t", l, got)
		}
		if got, want := request.Length(l), lengthOf(l); got != want {
			t.Errorf("Length(%q) is %d, not %d", l, got, want)
		}
	}
	if !slices.Equal(l, before) {
		t.Errorf("%q became %q", before, l)
	}
}

// texts has each byte, and runes of several bytes, some of which are letters,
// figures or blanks elsewhere, alone and in each place of a text; and no byte.
func texts() []string {
	parts := []string{"é", "\u00df", "\u017f", "\u212a", "\u0130", "\uff41", "\uff21", "\uff13", "\u0663", "\u00a0", "\u2028", "\u3000", "\u0085", "\ufeff", "\ufffd", "\xc3", "\xe2\x84", "\xed\xa0\x80", "\xf0\x9f\x98\x80", "\xff\xfe", "\xc0\x80", "\xc0\x8a", "\xe0\x80\xa0"}
	for b := range 256 {
		parts = append(parts, string([]byte{byte(b)}))
	}
	all := []string{"", "\t\t", " \t ", "a b", "a\tb", "a \t b", "\r\n", "a\r\nb"}
	for _, p := range parts {
		all = append(all, p, p+"a", "a"+p, "a"+p+"a", "0"+p, p+"0", p+p, p+p+p, "aé"+p, "é"+p, p+"é", "é"+p+"é", p+"\xff", "\xff"+p)
	}
	return all
}

// P10.1: names are tokens without great letters.
func TestName(t *testing.T) {
	for _, s := range texts() {
		if got, want := request.Name(s), names.MatchString(s); got != want {
			t.Errorf("Name(%q) is %t", s, got)
		}
	}
	for s, want := range map[string]bool{
		"content-length": true, "0": true, "-": true, "abcdefghijklmnopqrstuvwxyz0123456789": true, "!#$%&'*+-.^_`|~": true, "X": false, "xX": false, "Xx": false, "xXx": false, "abcZ": false,
		":": false, ":method": false, "a:": false, "(": false, ")": false, ",": false, "/": false, ";": false, "<": false, "=": false, ">": false, "?": false, "@": false,
		"[": false, "\\": false, "]": false, "{": false, "}": false, "\"": false, " ": false, "\x7f": false, "\x80": false, "a\x00": false, "\x1f": false,
		strings.Repeat("a", 1<<16): true, strings.Repeat("a", 1<<16) + "A": false, strings.Repeat("a", 1<<16) + "\n": false,
	} {
		if got := request.Name(s); got != want {
			t.Errorf("Name(%q) is %t", s, got)
		}
	}
}

// P10.1: values have no bytes 0, 10, 13, and no blanks at their ends.
func TestValue(t *testing.T) {
	for _, s := range texts() {
		if got, want := request.Value(s), mayBeValue(s); got != want {
			t.Errorf("Value(%q) is %t", s, got)
		}
	}
	for s, want := range map[string]bool{
		"": true, "a": true, "a b": true, "a\tb": true, "a \t b": true, " ": false, "\t": false, "  ": false, " a": false, "a ": false, "\ta": false, "a\t": false,
		"\x00": false, "\n": false, "\r": false, "a\x00b": false, "a\nb": false, "a\rb": false, "a\x00": false, "\nb": false,
		"\x01": true, "\x0b": true, "\x0c": true, "\x1f": true, "\x7f": true, "\x80": true, "\xff": true, "é": true, "é ": false, " é": false, "é é": true, "\xff ": false, "\u00a0": true, "X:,\"{}": true,
		strings.Repeat("é", 1<<15): true, strings.Repeat("é", 1<<15) + " ": false, strings.Repeat(" ", 1<<16): false, "a" + strings.Repeat(" ", 1<<16) + "a": true,
	} {
		if got := request.Value(s); got != want {
			t.Errorf("Value(%q) is %t", s, got)
		}
	}
}

// P10.1: an ordinary field's name, and its value, may be.
func TestOrdinary(t *testing.T) {
	for _, s := range shapes() {
		is(t, s, s.ahead, true)
		for _, x := range texts() {
			is(t, s, join(s.ahead, list(x, "b")), names.MatchString(x))
			is(t, s, join(s.ahead, list("a", x)), mayBeValue(x))
			is(t, s, join(s.ahead, list("a", "b", x, "c", "d", "e")), names.MatchString(x))
			is(t, s, join(s.ahead, list("a", "b", "c", x, "d", "e")), mayBeValue(x))
		}
		is(t, s, join(s.ahead, list("a", "b", "a", "b", "a", "c", "cookie", "d", "cookie", "e", "host", "f")), true)
	}
}

// P10.1: fields with these names are not ordinary, whatever they say; such as have
// nearly these names are.
func TestBarred(t *testing.T) {
	for _, s := range shapes() {
		for _, name := range barred {
			for _, value := range []string{"", "x", "close", "trailers", "chunked", "h2c", "timeout=5", "1"} {
				is(t, s, join(s.ahead, list(name, value)), false)
				is(t, s, join(s.ahead, list("a", "b", name, value)), false)
				is(t, s, join(s.ahead, list(name, value, "a", "b")), false)
			}
			is(t, s, join(s.ahead, list(name+"s", "x", "x"+name, "x", name[1:], "x", name[:len(name)-1], "x", name+"-", "x")), true)
			is(t, s, join(s.ahead, list(strings.ReplaceAll(name, "e", "E"), "x")), false)
		}
		is(t, s, join(s.ahead, list("proxy-authenticate", "x", "trailer", "x", "http2-settings", "x", "keepalive", "x", "host", "x", "expect", "x", "transfer", "x")), true)
	}
}

// P10.1: te says trailers, and nothing else.
func TestTE(t *testing.T) {
	for _, s := range shapes() {
		for value, want := range map[string]bool{"trailers": true, "": false, "trailer": false, "trailerss": false, "Trailers": false, "TRAILERS": false, "gzip": false, "trailers, gzip": false, "gzip, trailers": false, "trailers;q=1": false, " trailers": false, "trailers ": false, "trailers\x00": false} {
			is(t, s, join(s.ahead, list("te", value)), want)
			is(t, s, join(s.ahead, list("a", "b", "te", value, "c", "d")), want)
			is(t, s, join(s.ahead, list("te", "trailers", "te", value)), want)
			is(t, s, join(s.ahead, list("te", value, "te", "trailers")), want)
			is(t, s, join(s.ahead, list("tea", value)), mayBeValue(value))
		}
		is(t, s, join(s.ahead, list("TE", "trailers")), false)
		is(t, s, join(s.ahead, list("t", "gzip", "et", "gzip", "te-", "gzip")), true)
	}
}

// numbers are values of content-length, and what they tell; -1, if they tell nothing.
var numbers = map[string]int{
	"0": 0, "1": 1, "9": 9, "10": 10, "12": 12, "012": 12, "0012": 12, "00": 0, "000000000000000": 0, "000000000000001": 1, "65535": 65535, "2147483647": 2147483647, "2147483648": 2147483648,
	"4294967295": 4294967295, "4294967296": 4294967296, "4294967308": 4294967308, "99999999999999": 99999999999999, "100000000000000": 100000000000000, "123456789012345": 123456789012345, "999999999999999": 999999999999999,
	"": -1, "1000000000000000": -1, "0000000000000000": -1, "0000000000000012": -1, "9999999999999999": -1, "18446744073709551628": -1, "-1": -1, "-0": -1, "+1": -1, "1.0": -1, "1e3": -1, "0x1": -1, "1_0": -1, "1,1": -1, "1, 1": -1, "1 1": -1,
	" 1": -1, "1 ": -1, "\t1": -1, "1\t": -1, "1\n": -1, "\x001": -1, "1\x00": -1, "a": -1, "1a": -1, "a1": -1, "1a1": -1, "/": -1, ":": -1, "1/": -1, "1:": -1, "３": -1, "1３": -1, "٣": -1, "é": -1, "\xff": -1, "1\xff": -1, "²": -1, strings.Repeat("0", 1<<16): -1,
}

// P10.1: content-length says 1 to 15 figures.
func TestLengthField(t *testing.T) {
	for _, s := range shapes() {
		for value, n := range numbers {
			is(t, s, join(s.ahead, list("content-length", value)), n >= 0)
			is(t, s, join(s.ahead, list("a", "b", "content-length", value, "c", "d")), n >= 0)
			is(t, s, join(s.ahead, list("content-lengths", value, "content-lengt", value, "length", value)), mayBeValue(value))
		}
		is(t, s, join(s.ahead, list("Content-Length", "1")), false)
	}
}

// P10.1: lengths agree, if they tell the same number.
func TestLengthsAgree(t *testing.T) {
	for _, s := range shapes() {
		for one, n := range numbers {
			for other, m := range numbers {
				want := n >= 0 && n == m
				is(t, s, join(s.ahead, list("content-length", one, "content-length", other)), want)
				is(t, s, join(s.ahead, list("a", "1", "content-length", one, "b", "2", "c", "3", "content-length", other, "d", "4")), want)
			}
		}
		is(t, s, join(s.ahead, list("content-length", "1", "content-length", "01", "content-length", "001")), true)
		is(t, s, join(s.ahead, list("content-length", "1", "content-length", "1", "content-length", "2")), false)
		is(t, s, join(s.ahead, list("content-length", "1", "content-length", "2", "content-length", "1")), false)
		is(t, s, join(s.ahead, list("content-length", "2", "content-length", "1", "content-length", "1")), false)
		is(t, s, join(s.ahead, list("content-length", "0", "content-length", "1")), false)
		is(t, s, join(s.ahead, list("content-length", "1", "content-length", "0")), false)
	}
}

// P10.1: a request's first fields may have any order, but stand ahead of all others.
func TestOrder(t *testing.T) {
	first := join(get(), list(":authority", "x"))
	for range 24 {
		for i := range first {
			asks(t, join(first[:i], list("a", "b"), first[i:]), i == len(first))
		}
		asks(t, first, true)
		asks(t, join(first, list("a", "b", "c", "d")), true)
		asks(t, join(list("a", "b"), first), false)
		first = next(first)
	}
	if !slices.Equal(first, join(get(), list(":authority", "x"))) {
		t.Error("not all orders")
	}
	asks(t, list(":authority", "a:1", ":method", "CONNECT", "a", "b"), true)
	asks(t, list(":authority", "a:1", "a", "b", ":method", "CONNECT"), false)
	asks(t, list(":method", "CONNECT", "a", "b", ":authority", "a:1"), false)
}

// next is another order of four: all 24 come in turn.
func next(l []api.Field) []api.Field {
	before := func(a, b api.Field) bool { return a.Name < b.Name }
	l = slices.Clone(l)
	i := len(l) - 2
	for i >= 0 && !before(l[i], l[i+1]) {
		i--
	}
	if i >= 0 {
		j := len(l) - 1
		for !before(l[i], l[j]) {
			j--
		}
		l[i], l[j] = l[j], l[i]
	}
	slices.Reverse(l[i+1:])
	return l
}

// P10.1: what of method, scheme, path and authority is there, and is not empty.
func TestNeeded(t *testing.T) {
	absent := "-"
	for _, m := range []string{absent, "", "GET", "CONNECT", "connect", "CONNECTS", "CONNEC", "Connect", "Op!", "a b", "OPTIONS", "GET,"} {
		for _, s := range []string{absent, "", "http", "x", "no such"} {
			for _, p := range []string{absent, "", "/", "*", "a"} {
				for _, a := range []string{absent, "", "a:1"} {
					var l []api.Field
					for _, f := range list(":method", m, ":scheme", s, ":path", p, ":authority", a) {
						if f.Value != absent {
							l = append(l, f)
						}
					}
					want := s != absent && s != "" && p != absent && p != ""
					if m == "CONNECT" {
						want = s == absent && p == absent && a == "a:1"
					}
					want = want && m != absent && m != "" && m != "a b" && m != "GET,"
					asks(t, l, want)
					asks(t, join(l, list("a", "b")), want)
				}
			}
		}
	}
	asks(t, nil, false)
	asks(t, []api.Field{}, false)
	asks(t, list("a", "b"), false)
}

// P10.1: a method is a token; other values are such as may be.
func TestFirstValues(t *testing.T) {
	for _, x := range texts() {
		asks(t, list(":method", x, ":scheme", "a", ":path", "/"), tokens.MatchString(x))
		asks(t, list(":method", "M"+x, ":authority", "a", ":scheme", "a", ":path", "/"), tokens.MatchString("M"+x))
		asks(t, list(":method", "GET", ":scheme", x, ":path", "/"), x != "" && mayBeValue(x))
		asks(t, list(":method", "GET", ":scheme", "a", ":path", x), x != "" && mayBeValue(x))
		asks(t, get(":authority", x), mayBeValue(x))
		asks(t, list(":method", "CONNECT", ":authority", x), x != "" && mayBeValue(x))
		asks(t, get(":authority", "a")[1:], false)
	}
}

// P10.1: no other names begin with a colon.
func TestOtherNames(t *testing.T) {
	for _, name := range []string{":", "::", ":x", ":status", ":protocol", ":Method", ":METHOD", ":method ", ":methods", ":pat", ":paths", ":scheme:", ":authority\x00", " :path", "method", ":content-length", ":te"} {
		f := list(name, "x")
		for _, first := range [][]api.Field{get(), list(":method", "CONNECT", ":authority", "a:1")} {
			for i := range len(first) + 1 {
				asks(t, join(first[:i], f, first[i:]), name == "method" && i == len(first))
			}
		}
		for _, other := range shapes()[2:] {
			is(t, other, join(other.ahead, f), name == "method")
			is(t, other, join(f, other.ahead), name == "method" && len(other.ahead) == 0)
			is(t, other, join(other.ahead, list("a", "b"), f), name == "method")
		}
	}
	// What may be once in a request may not be elsewhere at all.
	for _, name := range []string{":method", ":scheme", ":path", ":authority"} {
		for _, other := range shapes()[2:] {
			is(t, other, join(list(name, "x"), other.ahead), false)
			is(t, other, join(other.ahead, list(name, "x")), false)
			is(t, other, join(other.ahead, list("a", "b", name, "x")), false)
		}
	}
}

// P10.1: trailers are ordinary fields alone; even none.
func TestTrailers(t *testing.T) {
	trailers := shapes()[2]
	for _, l := range [][]api.Field{nil, {}, list("a", ""), list("a", "b", "a", "b"), list("content-length", "1"), list("te", "trailers")} {
		is(t, trailers, l, true)
	}
	for _, l := range [][]api.Field{get(), list(":status", "200"), list("a", "b", ":status", "200"), list("", ""), list("", "a"), list("A", "b")} {
		is(t, trailers, l, false)
	}
}

// P10.1: a status is three figures, from 200 to 599, and the first field.
func TestResponse(t *testing.T) {
	response := shapes()[3]
	for n := range 10000 {
		for _, s := range []string{strconv.Itoa(n), "0" + strconv.Itoa(n), strconv.Itoa(-n)} {
			want := len(s) == 3 && 200 <= n && n <= 599
			is(t, response, list(":status", s), want)
			is(t, response, list(":status", s, "a", "b"), want)
		}
	}
	for _, x := range texts() {
		for _, s := range []string{x, "20" + x, "2" + x + "0", x + "00", "200" + x, x + "200"} {
			is(t, response, list(":status", s), states.MatchString(s))
		}
	}
	for _, s := range []string{"+20", "+200", "2e2", " 200", "200 ", "200 OK", "２００", "0200", "2 0", "2.0", "OK", strings.Repeat("2", 1<<16)} {
		is(t, response, list(":status", s), false)
	}
	for _, l := range [][]api.Field{nil, {}, list("a", "b"), list("a", "b", ":status", "200"), list(":status", "200", ":status", "200"), list(":status", "200", "a", "b", ":status", "200"), list("status", "200"), list(":Status", "200"), get(), get(":status", "200")} {
		is(t, response, l, false)
	}
	is(t, response, list(":status", "204", "status", "200"), true)
}

// P10.1: a list's length is that of the first field that may tell one, wherever it
// stands, and whatever else is in the list.
func TestLength(t *testing.T) {
	tells := func(l []api.Field, want int) {
		t.Helper()
		if n := request.Length(l); n != want {
			t.Errorf("Length(%q) is %d, not %d", l, n, want)
		}
	}
	for value, n := range numbers {
		for _, ahead := range [][]api.Field{nil, get(), list(":status", "200"), list("a", "b"), list("A", " ", "connection", "7", "Content-Length", "8", "content-lengths", "9", "", "5")} {
			tells(ahead, -1)
			tells(join(ahead, list("content-length", value)), n)
			tells(join(ahead, list("content-length", value, "a", "1")), n)
			for other, m := range numbers {
				tells(join(ahead, list("content-length", value, "content-length", other)), n)
				tells(join(ahead, list("content-length", other, "a", "1", "content-length", value)), m)
			}
		}
	}
	tells([]api.Field{}, -1)
	tells(list("content-length", "3", "content-length", "4", "content-length", "5"), 3)
}

// requests are some.
func requests() [][]api.Field {
	connect := list(":method", "CONNECT", ":authority", "a:1")
	return [][]api.Field{
		get(), get(":authority", ""), get(":authority", "x"), get("a", "b"), get(":authority", "x", "a", "b", "te", "trailers"), get("content-length", "12", "content-length", "012"),
		connect, join(connect, list("a", "b")), list(":authority", "x", ":path", "*", ":method", "OPTIONS", ":scheme", "http", "content-length", "0"),
	}
}

// P10.2: ordinary fields more, without lengths, behind the others, change nothing.
func TestMore(t *testing.T) {
	r := rand.New(rand.NewSource(10))
	more := list("a", "", "a", "b", "te", "trailers", "cookie", "a=b; c=d", "x-1", "é", "host", "x", "!", "\x01", "content-type", "a b")
	none := [][]api.Field{nil, get()[1:], get(":method", "GET"), get("a", " "), get("A", "b"), get("a", "b", ":authority", "x"), get("content-length", "1", "content-length", "2"), get("te", "x"), get("upgrade", ""), list(":method", "CONNECT")}
	for _, l := range append(requests(), none...) {
		want := isRequest(l)
		for range 50 {
			asks(t, l, want)
			if n := request.Length(l); n != lengthOf(l) {
				t.Errorf("Length(%q) is %d", l, n)
			}
			l = append(slices.Clone(l), more[r.Intn(len(more))])
		}
	}
	for _, s := range shapes() {
		l := s.ahead
		for range 3000 {
			l = append(l, more[r.Intn(len(more))])
		}
		is(t, s, l, true)
		is(t, s, append(l, list("", "")...), false)
		is(t, s, join(l, list("content-length", "3"), l[len(s.ahead):], list("content-length", "3")), true)
		is(t, s, join(l, list("content-length", "3"), l[len(s.ahead):], list("content-length", "4")), false)
	}
}

// P10.2: a field less that must be there makes a request none; so does one more
// that may be there once.
func TestLessOrTwice(t *testing.T) {
	for _, l := range requests() {
		asks(t, l, true)
		connect := len(values(l, ":path")) == 0
		ahead, _ := cut(l)
		for i, f := range l {
			isNeeded := i < len(ahead) && (f.Name != ":authority" || connect)
			asks(t, slices.Delete(slices.Clone(l), i, i+1), !isNeeded)
		}
		for _, f := range ahead {
			for i := range len(l) + 1 {
				asks(t, slices.Insert(slices.Clone(l), i, f), false)
				asks(t, slices.Insert(slices.Clone(l), i, api.Field{Name: f.Name, Value: "other"}), false)
				asks(t, slices.Insert(slices.Clone(l), i, api.Field{Name: f.Name}), false)
			}
		}
	}
}

// someField is any, mostly such as comes into lists.
func someField(r *rand.Rand) api.Field {
	name := []string{":method", ":scheme", ":path", ":authority", ":status", ":x", "a", "b", "te", "content-length", "content-length", "connection", "upgrade", "A", "", "é"}
	value := []string{"GET", "CONNECT", "", "a", "trailers", "200", "12", "012", "12", "99", " a", "a ", "a\nb", "é", "a b", "\xff"}
	return api.Field{Name: name[r.Intn(len(name))], Value: value[r.Intn(len(value))]}
}

// someList is any, near to such as may be.
func someList(r *rand.Rand) []api.Field {
	var l []api.Field
	switch r.Intn(4) {
	case 0:
		l = slices.Clone(requests()[r.Intn(len(requests()))])
	case 1:
		l = list(":status", strconv.Itoa(150+r.Intn(500)), "a", "b")
	case 2:
		l = list("a", "b", "content-length", "12")
	}
	for range r.Intn(4) {
		switch i := r.Intn(len(l) + 1); r.Intn(4) {
		case 0:
			l = slices.Insert(l, i, someField(r))
		case 1:
			l = slices.Delete(l, i, min(i+1, len(l)))
		case 2:
			if j := r.Intn(len(l) + 1); i < len(l) && j < len(l) {
				l[i], l[j] = l[j], l[i]
			}
		case 3:
			if i < len(l) {
				l[i].Value = someField(r).Value
			}
		}
	}
	return l
}

// P10.1: any lists, told again in other words.
func TestModel(t *testing.T) {
	r := rand.New(rand.NewSource(11))
	counts := map[string]int{}
	for range 60000 {
		l := someList(r)
		agrees(t, l)
		counts["requests"] += count(isRequest(l))
		counts["responses"] += count(isResponse(l))
		counts["trailers"] += count(ordinaries(l))
		counts["lengths"] += count(lengthOf(l) >= 0)
	}
	for what, n := range counts {
		if n < 3000 || n > 50000 {
			t.Errorf("%d %s", n, what)
		}
	}
}

// count is 1, if something holds.
func count(holds bool) int {
	if holds {
		return 1
	}
	return 0
}

// P1: whatever texts there are, each call ends.
func TestAnything(t *testing.T) {
	r := rand.New(rand.NewSource(12))
	some := func() string {
		b := make([]byte, r.Intn(4))
		r.Read(b)
		return []string{"", ":", "te", "content-length", "1"}[r.Intn(5)] + string(b)
	}
	for range 20000 {
		l := make([]api.Field, r.Intn(5))
		for i := range l {
			l[i] = api.Field{Name: some(), Value: some()}
			if got, want := request.Name(l[i].Name), names.MatchString(l[i].Name); got != want {
				t.Errorf("Name(%q) is %t", l[i].Name, got)
			}
			if got, want := request.Value(l[i].Value), mayBeValue(l[i].Value); got != want {
				t.Errorf("Value(%q) is %t", l[i].Value, got)
			}
		}
		agrees(t, l)
		agrees(t, join(get(), l))
		agrees(t, join(list(":status", "200"), l))
	}
	long := make([]api.Field, 1<<18)
	agrees(t, long)
	for i := range long {
		long[i] = api.Field{Name: "content-length", Value: "12"}
	}
	agrees(t, long)
	agrees(t, join(get(), long))
	long[len(long)-1].Value = "13"
	agrees(t, long)
	agrees(t, join(get(), long))
}

// P2: what is behind a list's length is neither read nor written; what was asked
// ahead makes no difference.
func TestMemory(t *testing.T) {
	for _, behind := range []api.Field{{Name: "", Value: "\n"}, {Name: ":path", Value: "/"}, {Name: "content-length", Value: "7"}} {
		for _, l := range append(requests(), nil, get()[1:], list(":status", "200"), list("a", "b")) {
			whole := append(slices.Clone(l), behind, behind)
			agrees(t, whole[:len(l)])
			if whole[len(l)] != behind || whole[len(l)+1] != behind {
				t.Errorf("%q is behind %q", whole[len(l):], l)
			}
		}
	}
	var runs [2][]bool
	for i := range runs {
		r := rand.New(rand.NewSource(13))
		for range 1000 {
			l := someList(r)
			runs[i] = append(runs[i], request.Request(l), request.Trailers(l), request.Response(l), request.Length(l) >= 0)
		}
	}
	if !slices.Equal(runs[0], runs[1]) {
		t.Error("not the same again")
	}
}
