package streams_test

import (
	"math"
	"math/rand"
	"runtime"
	"slices"
	"testing"

	"gantlet/api"
	"gantlet/streams"
)

// greatest is the greatest id that may be, told again.
const greatest = 1<<31 - 1

// none are numbers that are no ids: some about the edges, some that would be ids, if
// they were cut to fewer bits.
var none = []int{
	0, -1, -2, -3, -5, 2, 4, 6, 8, 100, 1 << 31, 1<<31 + 1, 1<<31 + 3, 1<<31 - 2, 1<<32 - 1, 1 << 32, 1<<32 + 1, 1<<32 + 5,
	-1 << 31, -1<<31 + 1, -1 << 32, -1<<32 + 1, math.MaxInt, math.MaxInt - 1, math.MinInt, math.MinInt + 1,
}

// made is a new table.
func made(t *testing.T, most, memory int) *streams.Table {
	t.Helper()
	x, e := streams.New(most, memory)
	if x == nil || e != api.OK {
		t.Fatalf("New(%d, %d) is %v, %d", most, memory, x, e)
	}
	return x
}

// with is a new table, with ids that are active.
func with(t *testing.T, most, memory int, ids ...int) *streams.Table {
	t.Helper()
	x := made(t, most, memory)
	for _, id := range ids {
		opens(t, x, id, api.OK)
	}
	return x
}

// opens tells whether Open answers just that.
func opens(t *testing.T, x *streams.Table, id int, want api.Errno) {
	t.Helper()
	if e := x.Open(id); e != want {
		t.Errorf("Open(%d) is %d, not %d", id, e, want)
	}
}

// closes tells whether Close answers just that.
func closes(t *testing.T, x *streams.Table, id int, late bool, want api.Errno) {
	t.Helper()
	if e := x.Close(id, late); e != want {
		t.Errorf("Close(%d, %t) is %d, not %d", id, late, e, want)
	}
}

// kinds tells whether all these ids are of a kind.
func kinds(t *testing.T, x *streams.Table, want int, ids ...int) {
	t.Helper()
	for _, id := range ids {
		if k := x.Kind(id); k != want {
			t.Errorf("Kind(%d) is %d, not %d", id, k, want)
		}
	}
}

// has tells whether a table has just these ids.
func has(t *testing.T, x *streams.Table, highest int, active, late []int) {
	t.Helper()
	if n := x.Highest(); n != highest {
		t.Errorf("the highest is %d, not %d", n, highest)
	}
	if l := x.Active(); !slices.Equal(l, active) {
		t.Errorf("active are %v, not %v", l, active)
	}
	if l := x.Late(); !slices.Equal(l, late) {
		t.Errorf("late are %v, not %v", l, late)
	}
	kinds(t, x, 1, active...)
	kinds(t, x, 2, late...)
}

// odd is the first odd ids, so many, above one.
func odd(above, count int) []int {
	var l []int
	for range count {
		above += 1 + above%2
		l = append(l, above)
	}
	return l
}

// model is the document's words, told again.
type model struct {
	most, memory, highest int
	active, late          []int
}

// kind is what an id is.
func (m *model) kind(id int) int {
	switch {
	case slices.Contains(m.active, id):
		return 1
	case slices.Contains(m.late, id):
		return 2
	case id > 0 && id <= m.highest && id&1 == 1:
		return 3
	}
	return 0
}

// becomeLate lets an id stand behind the others; the first one is past, if these are
// too many.
func (m *model) becomeLate(id int) {
	m.late = append(m.late, id)
	for len(m.late) > m.memory {
		m.late = m.late[1:]
	}
}

// open lets an id be active, and the highest one.
func (m *model) open(id int) api.Errno {
	switch {
	case id < 1 || id > greatest || id&1 == 0:
		return api.ErrArg
	case id <= m.highest:
		return api.ErrState
	}
	m.highest = id
	if len(m.active) == m.most {
		m.becomeLate(id)
		return api.ErrFull
	}
	// Behind the others: it is above them.
	m.active = append(m.active, id)
	return api.OK
}

// close lets an active id be past, or late.
func (m *model) close(id int, late bool) api.Errno {
	i := slices.Index(m.active, id)
	if i < 0 {
		return api.ErrNone
	}
	m.active = slices.Delete(m.active, i, i+1)
	if late {
		m.becomeLate(id)
	}
	return api.OK
}

// step is one call that may change something: Close, or else Open.
type step struct {
	close, late bool
	id          int
}

// do is what a table answers to a step.
func (s step) do(x *streams.Table) api.Errno {
	if s.close {
		return x.Close(s.id, s.late)
	}
	return x.Open(s.id)
}

// told is what the model answers to a step.
func (s step) told(m *model) api.Errno {
	if s.close {
		return m.close(s.id, s.late)
	}
	return m.open(s.id)
}

// anyStep is a step of whatever ids, most of them about the highest one.
func anyStep(r *rand.Rand, highest int) step {
	s := step{close: r.Intn(2) == 0, late: r.Intn(2) == 0}
	switch r.Intn(8) {
	case 0:
		s.id = none[r.Intn(len(none))]
	case 1:
		s.id = 1 + r.Intn(highest+1)
	case 2:
		s.id = highest
	default:
		s.id = highest - 8 + r.Intn(14)
	}
	return s
}

// agrees tells whether a table is as the model.
func agrees(t *testing.T, x *streams.Table, m *model) {
	t.Helper()
	has(t, x, m.highest, m.active, m.late)
	for id := max(m.highest-20, -3); id <= m.highest+3; id++ {
		kinds(t, x, m.kind(id), id)
	}
}

// P17.1: a new table has no ids.
func TestNew(t *testing.T) {
	for most := range 101 {
		for memory := range 101 {
			has(t, made(t, most, memory), 0, nil, nil)
		}
	}
	x := made(t, 100, 100)
	kinds(t, x, 0, 1, 2, 3, 5, greatest)
	kinds(t, x, 0, none...)
}

// P17.1: no table can have more than 100, or fewer than 0; no matter which of both it
// is.
func TestNewWrong(t *testing.T) {
	for _, n := range []int{-1, 101, -2, 102, -100, 128, 256, 1 << 16, 1 << 31, 1 << 32, 1<<32 + 1, -1 << 32, math.MaxInt, math.MinInt} {
		for _, other := range []int{0, 1, 100, -1, 101, n} {
			for _, l := range [][2]int{{n, other}, {other, n}} {
				if x, e := streams.New(l[0], l[1]); x != nil || e != api.ErrArg {
					t.Errorf("New(%d, %d) is %v, %d", l[0], l[1], x, e)
				}
			}
		}
	}
}

// P17.1: what is opened is active, and the highest one; what was passed by is past.
func TestOpen(t *testing.T) {
	x := made(t, 100, 100)
	opens(t, x, 1, api.OK)
	has(t, x, 1, []int{1}, nil)
	opens(t, x, 3, api.OK)
	has(t, x, 3, []int{1, 3}, nil)
	opens(t, x, 9, api.OK)
	has(t, x, 9, []int{1, 3, 9}, nil)
	kinds(t, x, 3, 5, 7)
	kinds(t, x, 0, 2, 4, 6, 8, 10, 11, 13, greatest)
	kinds(t, x, 0, none...)
}

// P17.1: the greatest id is one, and nothing is above it.
func TestOpenGreatest(t *testing.T) {
	x := made(t, 2, 2)
	kinds(t, x, 0, greatest)
	opens(t, x, greatest-2, api.OK)
	opens(t, x, greatest, api.OK)
	has(t, x, greatest, []int{greatest - 2, greatest}, nil)
	kinds(t, x, 3, 1, 3, greatest-4)
	kinds(t, x, 0, none...)
	closes(t, x, greatest, true, api.OK)
	opens(t, x, greatest, api.ErrState)
	opens(t, x, greatest+2, api.ErrArg)
	has(t, x, greatest, []int{greatest - 2}, []int{greatest})
}

// P17.1: what is no id is not opened, whether the table is full, or not, whether that
// is above the highest, or not.
func TestOpenNone(t *testing.T) {
	for _, most := range []int{1, 2} {
		x := with(t, most, 2, 5)
		for _, id := range none {
			opens(t, x, id, api.ErrArg)
			has(t, x, 5, []int{5}, nil)
		}
		kinds(t, x, 3, 1, 3)
	}
}

// P17.1: what is not above the highest is not opened: be it active, late, or past,
// opened once, or never, be the table full, or not.
func TestOpenNotAbove(t *testing.T) {
	for count := range 5 {
		x := with(t, 3, 2, 5, 9, 13)
		closes(t, x, 5, true, api.OK)
		closes(t, x, 9, false, api.OK)
		for _, id := range odd(15, count) {
			x.Open(id)
		}
		highest, active, late := x.Highest(), x.Active(), x.Late()
		for id := 1; id <= highest; id += 2 {
			opens(t, x, id, api.ErrState)
			has(t, x, highest, active, late)
		}
	}
}

// P17.1: if MOST are active, what is opened is the highest one all the same, and
// late; with one fewer it is active.
func TestOpenFull(t *testing.T) {
	for most := range 101 {
		active := odd(0, most)
		x := with(t, most, 2, active...)
		has(t, x, max(2*most-1, 0), active, nil)
		next := 2*most + 1
		opens(t, x, next, api.ErrFull)
		has(t, x, next, active, []int{next})
		opens(t, x, next, api.ErrState)
		closes(t, x, next, false, api.ErrNone)
		opens(t, x, next+4, api.ErrFull)
		has(t, x, next+4, active, []int{next, next + 4})
		kinds(t, x, 3, next+2)
		opens(t, x, next+6, api.ErrFull)
		has(t, x, next+6, active, []int{next + 4, next + 6})
		kinds(t, x, 3, next)
		if most == 0 {
			continue
		}
		closes(t, x, active[0], false, api.OK)
		opens(t, x, next+8, api.OK)
		has(t, x, next+8, append(active[1:], next+8), []int{next + 4, next + 6})
		opens(t, x, next+10, api.ErrFull)
	}
}

// P17.1: what is not active is not closed: be it idle, past, or late, or no id.
func TestCloseNone(t *testing.T) {
	for _, late := range []bool{false, true} {
		x := with(t, 4, 2, 3, 5, 7, 9)
		closes(t, x, 5, true, api.OK)
		closes(t, x, 7, false, api.OK)
		for _, id := range append([]int{1, 5, 7, 11, 13, greatest}, none...) {
			closes(t, x, id, late, api.ErrNone)
			has(t, x, 9, []int{3, 9}, []int{5})
			kinds(t, x, 3, 1, 7)
		}
	}
	closes(t, made(t, 0, 0), 1, true, api.ErrNone)
}

// P17.1: what is closed is late, if that is asked for, and past otherwise; it leaves
// room for another one.
func TestClose(t *testing.T) {
	x := with(t, 2, 2, 1, 3)
	closes(t, x, 1, false, api.OK)
	has(t, x, 3, []int{3}, nil)
	kinds(t, x, 3, 1)
	closes(t, x, 3, true, api.OK)
	has(t, x, 3, nil, []int{3})
	opens(t, x, 5, api.OK)
	opens(t, x, 7, api.OK)
	opens(t, x, 9, api.ErrFull)
	has(t, x, 9, []int{5, 7}, []int{3, 9})
}

// P17.1: late ids stand as they became so, not by their numbers; the first one of
// these is past, if they are more than MEMORY; what becomes past does not count.
func TestLate(t *testing.T) {
	x := with(t, 5, 3, 1, 3, 5, 7, 9)
	for i, id := range []int{7, 1, 9} {
		closes(t, x, id, true, api.OK)
		if got := x.Late(); !slices.Equal(got, []int{7, 1, 9}[:i+1]) {
			t.Errorf("late are %v", got)
		}
	}
	closes(t, x, 5, false, api.OK)
	has(t, x, 9, []int{3}, []int{7, 1, 9})
	closes(t, x, 3, true, api.OK)
	has(t, x, 9, nil, []int{1, 9, 3})
	kinds(t, x, 3, 5, 7)
}

// P17.1: a table has as many late ids as its MEMORY is, and no more; with a MEMORY of
// 0 nothing is late.
func TestMemory(t *testing.T) {
	for memory := range 101 {
		x := made(t, 1, memory)
		ids := odd(0, 205)
		for i, id := range ids {
			opens(t, x, id, api.OK)
			closes(t, x, id, true, api.OK)
			has(t, x, id, nil, ids[max(0, i+1-memory):i+1])
			if i >= memory {
				kinds(t, x, 3, ids[i-memory])
			}
		}
	}
	x := made(t, 0, 0)
	opens(t, x, 1, api.ErrFull)
	has(t, x, 1, nil, nil)
	kinds(t, x, 3, 1)
}

// P17.1: active ids rise, whichever of many were closed.
func TestActiveRises(t *testing.T) {
	r := rand.New(rand.NewSource(1))
	for range 20 {
		active := odd(r.Intn(1000), 100)
		x := with(t, 100, 0, active...)
		for len(active) > 0 {
			i := r.Intn(len(active))
			closes(t, x, active[i], true, api.OK)
			active = slices.Delete(active, i, i+1)
			has(t, x, x.Highest(), active, nil)
		}
	}
}

// P17.1: on a nil table: an error ahead of all else, and otherwise nothing.
func TestNil(t *testing.T) {
	var x *streams.Table
	for _, id := range append([]int{1, 3, greatest}, none...) {
		opens(t, x, id, api.ErrArg)
		closes(t, x, id, false, api.ErrArg)
		closes(t, x, id, true, api.ErrArg)
		kinds(t, x, 0, id)
	}
	has(t, x, 0, nil, nil)
}

// ways goes through all ways of steps that begin with those that are done, and go on
// for as many as are left, and holds each against the model; it tells how many these
// are.
func ways(t *testing.T, most, memory int, done, all []step, left int) int {
	x, m := made(t, most, memory), &model{most: most, memory: memory}
	for _, s := range done {
		if got, want := s.do(x), s.told(m); got != want {
			t.Fatalf("most %d, memory %d, %v: %d, not %d", most, memory, done, got, want)
		}
	}
	agrees(t, x, m)
	if left == 0 || t.Failed() {
		return 1
	}
	count := 0
	for _, s := range all {
		count += ways(t, most, memory, append(slices.Clone(done), s), all, left-1)
	}
	return count
}

// P17.1: all ways of 4 steps, on small tables, are as the document's words, told
// again, have it.
func TestTold(t *testing.T) {
	var all []step
	for _, id := range []int{1, 3, 5, 7} {
		all = append(all, step{id: id}, step{close: true, id: id}, step{close: true, late: true, id: id})
	}
	for most := range 4 {
		for memory := range 3 {
			if count := ways(t, most, memory, nil, all, 4); count != 20736 {
				t.Fatalf("most %d, memory %d: %d ways", most, memory, count)
			}
		}
	}
}

// P17.1, and rule 3: so are long ways of whatever steps; a call with an error changes
// nothing, but for one that finds no room.
func TestToldLong(t *testing.T) {
	r := rand.New(rand.NewSource(2))
	for range 200 {
		m := &model{most: r.Intn(6), memory: r.Intn(6)}
		if r.Intn(4) == 0 {
			m.most, m.memory = r.Intn(101), r.Intn(101)
		}
		x := made(t, m.most, m.memory)
		for range 300 {
			s := anyStep(r, m.highest)
			if got, want := s.do(x), s.told(m); got != want {
				t.Fatalf("%v: %d, not %d", s, got, want)
			}
			agrees(t, x, m)
		}
	}
}

// since is what happened to an id, as a table's answers told it.
type since struct{ opened, refused, closed int }

// active tells whether an id was opened, and not closed since.
func (s since) active() bool { return s.opened > s.closed }

// check tells whether what a table has keeps what is promised, of ids to which all
// that happened.
func check(t *testing.T, x *streams.Table, most, memory int, log map[int]since) {
	t.Helper()
	var active []int
	for id, s := range log {
		if s.opened+s.refused > 1 || s.closed > s.opened {
			t.Fatalf("%d: %v", id, s)
		}
		if s.active() {
			active = append(active, id)
		}
	}
	slices.Sort(active)
	late := x.Late()
	has(t, x, x.Highest(), active, late)
	if len(active) > most || len(late) > memory {
		t.Fatalf("%d of %d are active, %d of %d late", len(active), most, len(late), memory)
	}
	for _, id := range late {
		if s := log[id]; s.closed+s.refused != 1 {
			t.Fatalf("%d is late: %v", id, s)
		}
	}
	if all := slices.Compact(slices.Sorted(slices.Values(late))); len(all) != len(late) {
		t.Fatalf("%v: some are alike", late)
	}
}

// P17.2: whatever is asked for, no id is opened twice; what is active was opened, and
// not closed since; there are never more than may be.
func TestOnce(t *testing.T) {
	r := rand.New(rand.NewSource(3))
	for range 100 {
		most, memory := r.Intn(8), r.Intn(8)
		x, log := made(t, most, memory), map[int]since{}
		for range 300 {
			s := anyStep(r, x.Highest())
			was, e := log[s.id], s.do(x)
			switch {
			case s.close && e == api.OK:
				was.closed++
			case e == api.OK:
				was.opened++
			case e == api.ErrFull:
				was.refused++
			default:
				continue
			}
			log[s.id] = was
			check(t, x, most, memory, log)
		}
	}
}

// P17.2: what was closed is not opened again, however long ago that was.
func TestNeverAgain(t *testing.T) {
	x := made(t, 3, 2)
	ids := odd(0, 200)
	for i, id := range ids {
		opens(t, x, id, api.OK)
		closes(t, x, id, i%2 == 0, api.OK)
		for _, gone := range ids[:i+1] {
			opens(t, x, gone, api.ErrState)
		}
	}
}

// P1: every call ends, and none panics, at all arguments, a nil table too.
func TestNoPanic(t *testing.T) {
	r := rand.New(rand.NewSource(4))
	for range 200 {
		x, _ := streams.New(r.Intn(103)-1, r.Intn(103)-1)
		for range 300 {
			id := int(r.Uint64() >> r.Intn(64))
			if r.Intn(2) == 0 {
				id = -id
			}
			switch r.Intn(3) {
			case 0:
				x.Open(id)
			case 1:
				x.Open(x.Highest() + 2)
			case 2:
				x.Close(id, r.Intn(2) == 0)
			}
			kind := x.Kind(id)
			if kind < 0 || kind > 3 || len(x.Active())+len(x.Late()) > 200 || x.Highest() < 0 {
				t.Fatalf("Kind(%d) is %d", id, kind)
			}
		}
	}
}

// P2: the same calls are answered alike, whatever happens to other tables; what asks
// how things stand changes nothing.
func TestSameAgain(t *testing.T) {
	r := rand.New(rand.NewSource(5))
	for range 100 {
		most, memory := r.Intn(12), r.Intn(12)
		x, y, other := made(t, most, memory), made(t, most, memory), made(t, 100, 100)
		for range 200 {
			s := anyStep(r, x.Highest())
			got := s.do(x)
			anyStep(r, other.Highest()).do(other)
			for range r.Intn(3) {
				has(t, y, y.Highest(), y.Active(), y.Late())
				y.Kind(s.id)
			}
			if again := s.do(y); got != again {
				t.Fatalf("%v: %d, %d", s, got, again)
			}
			has(t, y, x.Highest(), x.Active(), x.Late())
		}
	}
}

// spoil writes into a list, and behind it.
func spoil(l []int) {
	for i := range l[:cap(l)] {
		l[:cap(l)][i] = -7
	}
}

// P2: what is answered is new memory: whoever writes into it, or behind it, changes
// nothing; nor does what comes later change what was answered.
func TestNewMemory(t *testing.T) {
	x := with(t, 5, 3, 1, 3, 5, 7, 9)
	m := &model{most: 5, memory: 3, highest: 9, active: []int{1, 3, 5, 7, 9}}
	r := rand.New(rand.NewSource(6))
	for range 2000 {
		active, late := x.Active(), x.Late()
		wasActive, wasLate := slices.Clone(active), slices.Clone(late)
		s := anyStep(r, m.highest)
		if got, want := s.do(x), s.told(m); got != want {
			t.Fatalf("%v: %d, not %d", s, got, want)
		}
		if !slices.Equal(active, wasActive) || !slices.Equal(late, wasLate) {
			t.Fatalf("%v, %v became %v, %v", wasActive, wasLate, active, late)
		}
		spoil(active)
		spoil(late)
		spoil(x.Active())
		spoil(x.Late())
		agrees(t, x, m)
	}
}

// inUse is how much memory is held, now that nothing else is.
func inUse() int {
	var m runtime.MemStats
	runtime.GC()
	runtime.ReadMemStats(&m)
	return int(m.HeapAlloc)
}

// What is held does not grow by what was opened, and closed, or found no room.
func TestLean(t *testing.T) {
	ahead := inUse()
	x := made(t, 100, 100)
	for i := range 1000000 {
		id := 2*i + 1
		x.Open(id)
		if i%4 != 0 {
			x.Close(id-198, i%3 == 0)
		}
	}
	if held := inUse() - ahead; held > 1<<20 {
		t.Errorf("%d bytes are held", held)
	}
	if len(x.Active()) < 90 || len(x.Late()) != 100 {
		t.Errorf("%d are active, %d late", len(x.Active()), len(x.Late()))
	}
}
