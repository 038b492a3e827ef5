package static_test

import (
	"math"
	"slices"
	"strconv"
	"strings"
	"testing"

	"gantlet/api"
	"gantlet/static"
)

// table is the document's: in each line an index, a name, and a value.
const table = `
1|:authority|
2|:method|GET
3|:method|POST
4|:path|/
5|:path|/index.html
6|:scheme|http
7|:scheme|https
8|:status|200
9|:status|204
10|:status|206
11|:status|304
12|:status|400
13|:status|404
14|:status|500
15|accept-charset|
16|accept-encoding|gzip, deflate
17|accept-language|
18|accept-ranges|
19|accept|
20|access-control-allow-origin|
21|age|
22|allow|
23|authorization|
24|cache-control|
25|content-disposition|
26|content-encoding|
27|content-language|
28|content-length|
29|content-location|
30|content-range|
31|content-type|
32|cookie|
33|date|
34|etag|
35|expect|
36|expires|
37|from|
38|host|
39|if-match|
40|if-modified-since|
41|if-none-match|
42|if-range|
43|if-unmodified-since|
44|last-modified|
45|link|
46|location|
47|max-forwards|
48|proxy-authenticate|
49|proxy-authorization|
50|range|
51|referer|
52|refresh|
53|retry-after|
54|server|
55|set-cookie|
56|strict-transport-security|
57|transfer-encoding|
58|user-agent|
59|vary|
60|via|
61|www-authenticate|
`

// rows are the table's fields, by their indexes; at 0 there is none.
func rows(t *testing.T) []api.Field {
	t.Helper()
	all := []api.Field{{}}
	for line := range strings.Lines(strings.TrimSpace(table)) {
		cells := strings.Split(strings.TrimSuffix(line, "\n"), "|")
		if i, err := strconv.Atoi(cells[0]); len(cells) != 3 || err != nil || i != len(all) {
			t.Fatalf("%q is no row", line)
		}
		all = append(all, api.Field{Name: cells[1], Value: cells[2]})
	}
	if len(all) != 62 {
		t.Fatalf("%d rows", len(all)-1)
	}
	return all
}

// found is a field's index, looked for in the table from its end on.
func found(all []api.Field, f api.Field) (int, bool) {
	at, whole := 0, false
	for i := len(all) - 1; i > 0; i-- {
		if all[i].Name != f.Name {
			continue
		}
		same := all[i].Value == f.Value
		if same || !whole {
			at, whole = i, same
		}
	}
	return at, whole
}

// finds tells whether a field is answered with just that.
func finds(t *testing.T, f api.Field, want int, whole bool) {
	t.Helper()
	if i, same := static.Find(f); i != want || same != whole {
		t.Errorf("Find(%q) is %d, %t, not %d, %t", f, i, same, want, whole)
	}
}

// oddNames are such as no static field has.
var oddNames = []string{
	"", " ", ":", "::method", "method", "status", "path", "authority", "scheme",
	":Method", ":METHOD", "Accept", "ACCEPT", "Cookie", "WWW-Authenticate",
	":method ", " :method", ":metho", ":methods", ":paths", "accep", "accept-", "accept-charse", "accept-charsets",
	"ag", "agee", "vi", "vias", "access-control-allow-origi", "access-control-allow-origins", "x", "zzz", "te",
	":method\x00", "\x00", "\xff", "accept\n", "accept_charset", "cookie\u0301", "c\u043eokie", "GET", "200", "/",
	":method: GET", ":methodGET", "www-authenticate\x00", "GET:method",
}

// oddValues are such as no static field has, but for the one that is none.
var oddValues = []string{
	"", "x", "get", "Get", "PUT", "GET ", " GET", "GE", "GETT", "GET\x00", "POSTGET", "//", "/index.htm", "/index.html/",
	"HTTP", "httpss", "htt", "2", "20", "2000", "201", "0200", "100", "gzip", "deflate", "gzip,deflate", "gzip, deflate ",
	"deflate, gzip", "\x00", "\xff", "0",
}

// asked are fields of all names and values that stand in the table, and of odd ones.
func asked(all []api.Field) []api.Field {
	names, values := slices.Clone(oddNames), slices.Clone(oddValues)
	for _, f := range all {
		names = append(names, f.Name)
		values = append(values, f.Value)
	}
	var l []api.Field
	for _, n := range names {
		for _, v := range values {
			l = append(l, api.Field{Name: n, Value: v})
		}
	}
	return l
}

// P6.1: the field of an index.
func TestGet(t *testing.T) {
	all := rows(t)
	if static.Len != len(all)-1 {
		t.Errorf("there are %d", static.Len)
	}
	for i := 1; i <= static.Len; i++ {
		if f, e := static.Get(i); f != all[i] || e != api.OK {
			t.Errorf("Get(%d) is %q, %d, not %q", i, f, e, all[i])
		}
	}
}

// P6.1: an index that there is none of, those that look like one in fewer bits too.
func TestGetErrors(t *testing.T) {
	bad := []int{0, -1, -2, -60, -61, -62, 62, 63, 64, 122, 128, math.MinInt, math.MinInt + 1, math.MaxInt, math.MaxInt - 1, math.MinInt32, math.MaxInt32}
	for bits := 6; bits < 63; bits++ {
		for _, i := range []int{0, 1, 2, 61} {
			bad = append(bad, 1<<bits+i, -1<<bits+i)
		}
	}
	bad = append(bad, math.MinInt+2, math.MinInt+61)
	for _, i := range bad {
		if 1 <= i && i <= 61 {
			continue
		}
		if f, e := static.Get(i); f != (api.Field{}) || e != api.ErrNone {
			t.Errorf("Get(%d) is %q, %d", i, f, e)
		}
	}
}

// P6.2: each static field is found, at its own index.
func TestFindEach(t *testing.T) {
	for i, f := range rows(t)[1:] {
		finds(t, f, i+1, true)
	}
	for i := 1; i <= static.Len; i++ {
		f, _ := static.Get(i)
		finds(t, f, i, true)
	}
}

// P6.1: the least index of a name, if no field with it has that value, be that
// the beginning of one that has it, or another name's.
func TestFindName(t *testing.T) {
	for _, x := range []struct {
		name, value string
		want        int
	}{
		{":authority", "a", 1},
		{":method", "", 2}, {":method", "PUT", 2}, {":method", "post", 2}, {":method", "/", 2}, {":method", "GETPOST", 2},
		{":path", "", 4}, {":path", "a", 4}, {":path", "/index", 4}, {":path", "/Index.html", 4},
		{":scheme", "", 6}, {":scheme", "ftp", 6}, {":scheme", "HTTPS", 6},
		{":status", "", 8}, {":status", "201", 8}, {":status", "501", 8}, {":status", "2000", 8}, {":status", "GET", 8},
		{"accept-charset", "utf-8", 15},
		{"accept-encoding", "", 16}, {"accept-encoding", "gzip", 16}, {"accept-encoding", "gzip,deflate", 16},
		{"accept", "*/*", 19}, {"age", "9", 21}, {"cookie", "a=b", 32}, {"from", " ", 37},
		{"if-match", "\x00", 39}, {"www-authenticate", "x", 61},
	} {
		finds(t, api.Field{Name: x.name, Value: x.value}, x.want, false)
	}
}

// P6.1: no field has that name, whatever the value is.
func TestFindNone(t *testing.T) {
	for _, n := range oddNames {
		for _, v := range append([]string{"GET", "/", "200", "gzip, deflate", ":method"}, oddValues...) {
			finds(t, api.Field{Name: n, Value: v}, 0, false)
		}
	}
	// Names and values are not taken the other way round.
	for _, f := range rows(t)[1:] {
		finds(t, api.Field{Name: f.Value, Value: f.Name}, 0, false)
		finds(t, api.Field{Name: f.Name + f.Value + "-", Value: ""}, 0, false)
	}
}

// P6.1: all names and values, each one with each, held against the table.
func TestFindAll(t *testing.T) {
	all := rows(t)
	for _, f := range asked(all) {
		want, whole := found(all, f)
		finds(t, f, want, whole)
	}
}

// P6.2: what is found has the name, and the value too, if it is the whole field;
// no index that is less would have been as good.
func TestFoundHasName(t *testing.T) {
	for _, f := range asked(rows(t)) {
		i, whole := static.Find(f)
		if i == 0 {
			if whole {
				t.Errorf("%q is found at 0", f)
			}
			continue
		}
		g, e := static.Get(i)
		if e != api.OK || g.Name != f.Name || whole != (g == f) {
			t.Errorf("%q is found at %d, %t, where %q, %d is", f, i, whole, g, e)
		}
		for j := 1; j < i; j++ {
			if h, _ := static.Get(j); h == f || !whole && h.Name == f.Name {
				t.Errorf("%q is found at %d, and not at %d", f, i, j)
			}
		}
	}
}

// P1: every call ends, and none panics, at all arguments.
func TestNoPanic(t *testing.T) {
	for i := -70000; i <= 70000; i++ {
		if f, e := static.Get(i); (1 <= i && i <= 61) != (e == api.OK) || e != api.OK && (e != api.ErrNone || f != api.Field{}) {
			t.Fatalf("Get(%d) is %q, %d", i, f, e)
		}
	}
	long := strings.Repeat("accept", 1<<18)
	finds(t, api.Field{Name: long}, 0, false)
	finds(t, api.Field{Name: long, Value: long}, 0, false)
	finds(t, api.Field{Name: long[:6], Value: long}, 19, false)
	finds(t, api.Field{Name: long[6:12]}, 19, true)
	finds(t, api.Field{Name: strings.Repeat("\xff", 70000), Value: strings.Repeat("\x00", 70000)}, 0, false)
	for c := range 256 {
		b := string([]byte{byte(c)})
		finds(t, api.Field{Name: b, Value: b}, 0, false)
		finds(t, api.Field{Name: ":method", Value: b}, 2, false)
		finds(t, api.Field{Name: ":path", Value: b}, 4, b == "/")
		finds(t, api.Field{Name: "via" + b}, 0, false)
		finds(t, api.Field{Name: b + "via"}, 0, false)
	}
}

// P2: the same arguments are answered alike, whatever was asked between, from
// whatever memory their texts are.
func TestSameAgain(t *testing.T) {
	all := rows(t)
	list := asked(all)
	for i, f := range list {
		other := list[(i*31+7)%len(list)]
		at, whole := static.Find(f)
		static.Find(other)
		static.Get(i % 70)
		finds(t, api.Field{Name: strings.Clone(f.Name), Value: strings.Clone(f.Value)}, at, whole)
		finds(t, f, at, whole)
	}
	for i := 61; i > 0; i-- {
		static.Get(62 - i)
		static.Get(0)
		if f, e := static.Get(i); f != all[i] || e != api.OK {
			t.Errorf("Get(%d), asked again, is %q, %d", i, f, e)
		}
	}
}

// P2: who changes what was answered changes no later answer.
func TestNewMemory(t *testing.T) {
	all := rows(t)
	for i := 1; i <= static.Len; i++ {
		f, _ := static.Get(i)
		f.Name, f.Value = "x", "y"
		if g, _ := static.Get(i); g != all[i] || f == g {
			t.Errorf("Get(%d) is %q now", i, g)
		}
		finds(t, all[i], i, true)
	}
	finds(t, api.Field{Name: "x", Value: "y"}, 0, false)
}
