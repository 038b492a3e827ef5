package dynamic_test

import (
	"math"
	"math/rand"
	"slices"
	"strconv"
	"strings"
	"testing"
	"unsafe"

	"gantlet/api"
	"gantlet/dynamic"
)

// sized is a field of a size, from 32 on, which a mark tells from others as far
// as there is room for it.
func sized(size, mark int) api.Field {
	s := strconv.Itoa(mark) + strings.Repeat("x", size)
	return api.Field{Name: s[:(size-32)/2], Value: s[:size-32-(size-32)/2]}
}

// named is a field of 33 bytes.
func named(c byte) api.Field { return api.Field{Name: string([]byte{c})} }

// made is a new table, with such fields, each one added.
func made(t *testing.T, bound int, fields ...api.Field) *dynamic.Table {
	t.Helper()
	x, e := dynamic.New(bound)
	if x == nil || e != api.OK {
		t.Fatalf("New(%d) is %v, %d", bound, x, e)
	}
	add(t, x, fields...)
	return x
}

// add adds fields.
func add(t *testing.T, x *dynamic.Table, fields ...api.Field) {
	t.Helper()
	for _, f := range fields {
		if e := x.Add(f); e != api.OK {
			t.Fatalf("Add(%.40q) is %d", f, e)
		}
	}
}

// setMost lets the most be another one, that may be.
func setMost(t *testing.T, x *dynamic.Table, n int) {
	t.Helper()
	if e := x.SetMost(n); e != api.OK {
		t.Fatalf("SetMost(%d) is %d", n, e)
	}
}

// total is the sum of fields' sizes.
func total(fields []api.Field) int {
	sum := 0
	for _, f := range fields {
		sum += len(f.Name) + len(f.Value) + 32
	}
	return sum
}

// has tells whether a table has just that: the most, and the fields, the newest
// one first.
func has(t *testing.T, x *dynamic.Table, most int, want ...api.Field) {
	t.Helper()
	if x.Most() != most {
		t.Errorf("the most is %d, not %d", x.Most(), most)
	}
	if x.Len() != len(want) || x.Size() != total(want) {
		t.Errorf("there are %d fields of %d bytes, not %d of %d", x.Len(), x.Size(), len(want), total(want))
	}
	for i, w := range want {
		if f, e := x.Get(i + 1); f != w || e != api.OK {
			t.Errorf("Get(%d) is %.40q, %d, not %.40q", i+1, f, e, w)
		}
	}
	for _, i := range []int{0, len(want) + 1} {
		if f, e := x.Get(i); f != (api.Field{}) || e != api.ErrNone {
			t.Errorf("Get(%d) is %.40q, %d", i, f, e)
		}
	}
}

// numbers are odd ones, at the ends of all sizes.
var numbers = []int{
	math.MinInt, math.MinInt + 1, math.MinInt32, -65536, -4097, -4096, -33, -32, -1,
	4097, 4098, 8192, 65536, math.MaxInt32, math.MaxInt32 + 1, 1 << 32, 1<<32 + 1, 1<<32 + 4096, math.MaxInt - 1, math.MaxInt,
}

// model is what a table should have, by the document's words: the newest field
// stands first.
type model struct {
	bound, most int
	fields      []api.Field
}

// leave lets the oldest ones go, while there is not so much room left.
func (m *model) leave(room int) {
	for len(m.fields) > 0 && total(m.fields)+room > m.most {
		m.fields = m.fields[:len(m.fields)-1]
	}
}

func (m *model) add(f api.Field) {
	size := total([]api.Field{f})
	m.leave(size)
	if size <= m.most {
		m.fields = append([]api.Field{f}, m.fields...)
	}
}

func (m *model) setMost(n int) api.Errno {
	if n < 0 || n > m.bound {
		return api.ErrArg
	}
	m.most = n
	m.leave(0)
	return api.OK
}

func (m *model) clone() *model {
	return &model{m.bound, m.most, slices.Clone(m.fields)}
}

// P7.1: a table of each bound that may be has no fields, and that as its most.
func TestNew(t *testing.T) {
	for bound := 0; bound <= 4096; bound++ {
		x := made(t, bound)
		has(t, x, bound)
		if e := x.SetMost(bound + 1); e != api.ErrArg {
			t.Errorf("SetMost above the bound %d is %d", bound, e)
		}
		has(t, x, bound)
	}
}

// P7.1: no table has another bound.
func TestNewErrors(t *testing.T) {
	for _, bound := range numbers {
		if x, e := dynamic.New(bound); x != nil || e != api.ErrArg {
			t.Errorf("New(%d) is %v, %d", bound, x, e)
		}
	}
}

// P7.1: a field's size counts bytes, of its name and its value, and 32.
func TestSize(t *testing.T) {
	long := strings.Repeat("x", 1<<20)
	for _, x := range []struct {
		name, value string
		want        int
	}{
		{"", "", 32}, {"a", "", 33}, {"", "a", 33}, {"a", "b", 34}, {"ab", "c", 35},
		{"custom-key", "custom-header", 55}, {":authority", "www.example.com", 57},
		{"\x00", "\xff\xfe", 35}, {"\u00e9", "\u20ac", 37}, {"\U0001F600", "", 36},
		{strings.Repeat("n", 4064), "", 4096}, {"", strings.Repeat("v", 65536), 65568},
		{long, long, 1<<21 + 32},
	} {
		if n := dynamic.Size(api.Field{Name: x.name, Value: x.value}); n != x.want {
			t.Errorf("Size(%.20q, %.20q) is %d, not %d", x.name, x.value, n, x.want)
		}
	}
}

// P7.1: what comes is the newest one, at index 1, and all others are one on.
func TestAdd(t *testing.T) {
	x := made(t, 4096)
	a, b, c := api.Field{Name: "a", Value: "1"}, api.Field{Name: "b", Value: "22"}, api.Field{}
	has(t, x, 4096)
	add(t, x, a)
	has(t, x, 4096, a)
	add(t, x, b)
	has(t, x, 4096, b, a)
	add(t, x, c)
	has(t, x, 4096, c, b, a)
	// One that is there already comes once more.
	add(t, x, a)
	has(t, x, 4096, a, c, b, a)
	add(t, x, a)
	has(t, x, 4096, a, a, c, b, a)
}

// P7.1: what a field holds stays as it was, whatever its bytes are.
func TestAddBytes(t *testing.T) {
	x := made(t, 4096)
	for c := range 256 {
		b := string([]byte{byte(c)})
		for _, f := range []api.Field{{Name: b}, {Value: b}, {Name: b, Value: b}, {Name: "Content-Type" + b, Value: " " + b + "\n"}} {
			add(t, x, f)
			if g, e := x.Get(1); g != f || e != api.OK {
				t.Errorf("%q came as %q, %d", f, g, e)
			}
		}
	}
}

// P7.1: the oldest ones go, as few as will do, and none if there is just room.
func TestOldestGo(t *testing.T) {
	a, b, c := named('a'), named('b'), named('c')
	for _, x := range []struct {
		size int
		left []api.Field
	}{
		{32, []api.Field{c, b, a}}, {132 - 99, []api.Field{c, b, a}},
		{132 - 98, []api.Field{c, b}}, {132 - 66, []api.Field{c, b}},
		{132 - 65, []api.Field{c}}, {132 - 33, []api.Field{c}},
		{132 - 32, nil}, {131, nil}, {132, nil},
	} {
		y := made(t, 132, a, b, c)
		f := sized(x.size, 7)
		add(t, y, f)
		has(t, y, 132, append([]api.Field{f}, x.left...)...)
	}
}

// P7.1: of unlike sizes, those go that came first, be they great or not.
func TestOldestGoByAge(t *testing.T) {
	great, small, middle := sized(100, 1), sized(32, 2), sized(60, 3)
	x := made(t, 200, great, small, middle)
	f := sized(40, 4)
	add(t, x, f)
	has(t, x, 200, f, middle, small)
	x = made(t, 200, small, great, middle)
	add(t, x, f)
	has(t, x, 200, f, middle, great)
	x = made(t, 200, small, middle, great)
	add(t, x, f)
	has(t, x, 200, f, great, middle)
}

// P7.1: if a field has more than the most itself, all go, it doesn't come, and
// that is no error.
func TestTooGreat(t *testing.T) {
	for _, most := range []int{0, 1, 31, 32, 33, 66, 100, 4095, 4096} {
		for _, size := range []int{most + 1, most + 2, most + 32, 2 * most, 4097, 70000} {
			if size <= most || size < 32 {
				continue
			}
			x := made(t, most, named('a'), api.Field{}, named('b'), sized(size, 5))
			has(t, x, most)
			if add(t, x, api.Field{}); most >= 32 {
				has(t, x, most, api.Field{})
			} else {
				has(t, x, most)
			}
		}
		if most < 32 {
			continue
		}
		x := made(t, most, named('a'), api.Field{}, sized(most, 5))
		has(t, x, most, sized(most, 5))
	}
}

// P7.1: it is the most that counts, not the bound, once that is less.
func TestTooGreatForMost(t *testing.T) {
	x := made(t, 4096, named('a'), named('b'))
	setMost(t, x, 70)
	add(t, x, sized(71, 1))
	has(t, x, 70)
	add(t, x, sized(70, 2))
	has(t, x, 70, sized(70, 2))
	add(t, x, sized(38, 3))
	has(t, x, 70, sized(38, 3))
	add(t, x, sized(32, 4))
	has(t, x, 70, sized(32, 4), sized(38, 3))
}

// P7.1: there is no field of an index below 1, or above how many there are.
func TestGetErrors(t *testing.T) {
	for n := range 5 {
		x := made(t, 4096)
		for i := range n {
			add(t, x, named(byte('a'+i)))
		}
		for _, i := range append([]int{0, n + 1, n + 2, 62, 128}, numbers...) {
			if f, e := x.Get(i); f != (api.Field{}) || e != api.ErrNone {
				t.Errorf("of %d, Get(%d) is %q, %d", n, i, f, e)
			}
		}
	}
	// One that went is not there any more.
	x := made(t, 66, named('a'), named('b'), named('c'))
	has(t, x, 66, named('c'), named('b'))
}

// P7.1: the oldest fields go, while the most is less than their size.
func TestSetMost(t *testing.T) {
	all := []api.Field{named('c'), named('b'), named('a')}
	for most := range 133 {
		x := made(t, 132, named('a'), named('b'), named('c'))
		setMost(t, x, most)
		has(t, x, most, all[:min(3, most/33)]...)
		// Those that went don't come back.
		setMost(t, x, 132)
		has(t, x, 132, all[:min(3, most/33)]...)
		add(t, x, named('d'))
		has(t, x, 132, append([]api.Field{named('d')}, all[:min(3, most/33)]...)...)
	}
}

// P7.1: a most that may not be changes nothing, be it under the bound of others.
func TestSetMostErrors(t *testing.T) {
	for _, bound := range []int{0, 1, 99, 110, 4095, 4096} {
		x := made(t, bound, named('a'), named('b'))
		var left []api.Field
		if bound >= 66 {
			left = []api.Field{named('b'), named('a')}
		}
		for _, n := range append([]int{-1, bound + 1, bound + 2, 4097}, numbers...) {
			if e := x.SetMost(n); e != api.ErrArg {
				t.Errorf("SetMost(%d), of the bound %d, is %d", n, bound, e)
			}
			has(t, x, bound, left...)
		}
		// The bound stays what it was, however little the most is.
		setMost(t, x, 0)
		has(t, x, 0)
		if e := x.SetMost(bound + 1); e != api.ErrArg {
			t.Errorf("SetMost above the bound %d is %d", bound, e)
		}
		has(t, x, 0)
		setMost(t, x, bound)
		has(t, x, bound)
	}
}

// P7.1: the most may be another one as often as one likes.
func TestSetMostAgain(t *testing.T) {
	x := made(t, 200, named('a'), named('b'), named('c'), named('d'))
	setMost(t, x, 100)
	setMost(t, x, 150)
	setMost(t, x, 150)
	has(t, x, 150, named('d'), named('c'), named('b'))
	add(t, x, named('e'), named('f'))
	has(t, x, 150, named('f'), named('e'), named('d'), named('c'))
	setMost(t, x, 0)
	has(t, x, 0)
	add(t, x, named('g'), api.Field{})
	has(t, x, 0)
	setMost(t, x, 32)
	add(t, x, named('g'))
	has(t, x, 32)
	add(t, x, api.Field{})
	has(t, x, 32, api.Field{})
}

// P7.1: a clone has the same, and goes its own way from then on.
func TestClone(t *testing.T) {
	a, b, c := named('a'), named('b'), named('c')
	x := made(t, 110, a, b, c)
	y, z := x.Clone(), x.Clone()
	if y == nil || y == x || y == z {
		t.Fatal("a clone is another one")
	}
	has(t, y, 110, c, b, a)
	add(t, x, named('d'))
	setMost(t, x, 70)
	add(t, y, named('e'), named('f'))
	setMost(t, z, 0)
	has(t, x, 70, named('d'), c)
	has(t, y, 110, named('f'), named('e'), c)
	has(t, z, 0)
	// The most that is another one is cloned, and so is the bound.
	w := x.Clone()
	has(t, w, 70, named('d'), c)
	if e := w.SetMost(111); e != api.ErrArg {
		t.Errorf("above a clone's bound: %d", e)
	}
	setMost(t, w, 110)
	add(t, w, a)
	has(t, w, 110, a, named('d'), c)
	has(t, x, 70, named('d'), c)
}

// P7.1: a clone of a table with room left shares none of that.
func TestCloneRoom(t *testing.T) {
	for n := range 20 {
		x := made(t, 4096)
		for i := range n {
			add(t, x, named(byte('a'+i)))
		}
		y := x.Clone()
		add(t, x, named('X'))
		add(t, y, named('Y'))
		if f, _ := x.Get(1); f != named('X') || x.Len() != n+1 {
			t.Errorf("of %d, %q is the newest one", n, f)
		}
		if f, _ := y.Get(1); f != named('Y') || y.Len() != n+1 {
			t.Errorf("of %d, %q is the clone's newest one", n, f)
		}
		setMost(t, x, 33)
		has(t, x, 33, named('X'))
		for i := range n {
			if f, e := y.Get(n + 1 - i); f != named(byte('a'+i)) || e != api.OK {
				t.Errorf("of %d, the clone has %q, %d", n, f, e)
			}
		}
	}
}

// P7.1: a nil table answers ErrArg, ahead of all else, 0, and nil.
func TestNil(t *testing.T) {
	var none *dynamic.Table
	for _, i := range append([]int{0, 1, 2, 4096}, numbers...) {
		if f, e := none.Get(i); f != (api.Field{}) || e != api.ErrArg {
			t.Errorf("Get(%d) of nil is %q, %d", i, f, e)
		}
		if e := none.SetMost(i); e != api.ErrArg {
			t.Errorf("SetMost(%d) of nil is %d", i, e)
		}
	}
	for _, f := range []api.Field{{}, named('a'), sized(5000, 1)} {
		if e := none.Add(f); e != api.ErrArg {
			t.Errorf("Add to nil is %d", e)
		}
	}
	if none.Len() != 0 || none.Size() != 0 || none.Most() != 0 || none.Clone() != nil {
		t.Errorf("nil has %d, %d, %d, %v", none.Len(), none.Size(), none.Most(), none.Clone())
	}
}

// P7.2: a table whose most stayed what it was has the newest ones of what came,
// as many as there is room for, each in its order.
func TestNewest(t *testing.T) {
	r := rand.New(rand.NewSource(7))
	for round := range 300 {
		bound := []int{0, 31, 32, 33, 64, 65, 110, 300, 1000, 4095, 4096}[round%11]
		x := made(t, bound)
		var came []api.Field
		for i := range 200 {
			f := sized(32+r.Intn(1+r.Intn(bound/2+40)), i)
			add(t, x, f)
			came = append([]api.Field{f}, came...)
			n := 0
			for n < len(came) && total(came[:n+1]) <= bound {
				n++
			}
			has(t, x, bound, came[:n]...)
			if x.Size() > x.Most() {
				t.Fatalf("%d bytes are more than %d", x.Size(), x.Most())
			}
		}
		if t.Failed() {
			t.Fatalf("in round %d, of the bound %d", round, bound)
		}
	}
}

// P7.2: as many fields as there can be: each one of the least size, of each bound.
func TestMany(t *testing.T) {
	for bound := range 4097 {
		x := made(t, bound)
		for range 130 {
			add(t, x, api.Field{})
		}
		if n := bound / 32; x.Len() != n || x.Size() != 32*n || x.Most() != bound {
			t.Errorf("of the bound %d: %d fields of %d bytes, %d", bound, x.Len(), x.Size(), x.Most())
		}
	}
}

// P7.1: all calls, mixed, of tables and their clones, held against the words.
func TestMixed(t *testing.T) {
	r := rand.New(rand.NewSource(71))
	for round := range 200 {
		bound := r.Intn(1 + r.Intn(4097))
		tables, models := []*dynamic.Table{made(t, bound)}, []*model{{bound: bound, most: bound}}
		for step := range 200 {
			i := r.Intn(len(tables))
			x, m := tables[i], models[i]
			switch r.Intn(10) {
			case 0, 1:
				n := r.Intn(bound+20) - 10
				if e, want := x.SetMost(n), m.setMost(n); e != want {
					t.Fatalf("SetMost(%d) is %d, not %d", n, e, want)
				}
			case 2:
				if len(tables) < 4 {
					tables, models = append(tables, x.Clone()), append(models, m.clone())
				}
			default:
				f := sized(32+r.Intn(1+r.Intn(bound+40)), step)
				add(t, x, f)
				m.add(f)
			}
			for i, x := range tables {
				has(t, x, models[i].most, models[i].fields...)
			}
			if t.Failed() {
				t.Fatalf("in round %d, step %d, of the bound %d", round, step, bound)
			}
		}
	}
}

// P7.1: a table's own oldest field, which goes as it comes, is whole still.
func TestAddOwn(t *testing.T) {
	x := made(t, 120, sized(60, 1), sized(60, 2))
	f, _ := x.Get(2)
	add(t, x, f)
	has(t, x, 120, sized(60, 1), sized(60, 2))
	f, _ = x.Get(1)
	setMost(t, x, 0)
	setMost(t, x, 60)
	add(t, x, f)
	has(t, x, 60, sized(60, 1))
}

// P1: every call ends, and none panics, at all arguments.
func TestNoPanic(t *testing.T) {
	long := strings.Repeat("x", 1<<24)
	var none *dynamic.Table
	for _, x := range []*dynamic.Table{none, made(t, 0), made(t, 31), made(t, 32), made(t, 4096), made(t, 4096, named('a')).Clone()} {
		for i := -200; i < 4300; i++ {
			x.Get(i)
			x.SetMost(i)
			x.Add(api.Field{Name: long[:max(i, 0)], Value: long[:max(i-3000, 0)]})
		}
		for _, i := range numbers {
			x.Get(i)
			x.SetMost(i)
			dynamic.New(i)
		}
		x.Add(api.Field{Name: long, Value: long})
		if x.Len()+x.Size() != 0 {
			t.Errorf("%d fields of %d bytes", x.Len(), x.Size())
		}
		x.Clone().Add(named('b'))
		x.Clone().Clone()
	}
}

// P2: the same calls are answered alike, whatever happens to other tables, and
// to what was answered; what asks changes nothing.
func TestSameAgain(t *testing.T) {
	x, y, other := made(t, 300), made(t, 300), made(t, 300)
	m := &model{bound: 300, most: 300}
	r := rand.New(rand.NewSource(2))
	for i := range 2000 {
		f := sized(32+r.Intn(150), i)
		add(t, x, f)
		add(t, other, sized(32+r.Intn(300), -i))
		setMost(t, other, r.Intn(301))
		other.Clone().Add(f)
		add(t, y, api.Field{Name: strings.Clone(f.Name), Value: strings.Clone(f.Value)})
		m.add(f)
		if g, e := x.Get(1); e == api.OK {
			g.Name, g.Value = "x", "y"
		}
		dynamic.Size(f)
		x.Get(-i)
		x.Clone()
		has(t, x, 300, m.fields...)
		has(t, x, 300, m.fields...)
		has(t, y, 300, m.fields...)
		if t.Failed() {
			t.Fatalf("behind %d", i)
		}
	}
}

// P2: texts that are handed in are not kept: one that is a piece of a longer one
// would keep all of that.
func TestNewMemory(t *testing.T) {
	// Not a constant: its memory is its own.
	long := strings.Repeat("name and value", 1000)
	inside := func(s string) bool {
		begin := uintptr(unsafe.Pointer(unsafe.StringData(long)))
		at := uintptr(unsafe.Pointer(unsafe.StringData(s)))
		return begin <= at && at < begin+uintptr(len(long))
	}
	f := api.Field{Name: long[:4], Value: long[9:14]}
	if !inside(f.Name) || !inside(f.Value) {
		t.Fatal("no pieces of the long one")
	}
	x := made(t, 4096, f)
	for _, y := range []*dynamic.Table{x, x.Clone()} {
		if g, e := y.Get(1); g != f || e != api.OK || inside(g.Name) || inside(g.Value) {
			t.Errorf("%q, %d is in the memory of what was handed in", g, e)
		}
	}
}
