package meter_test

import (
	"math"
	"math/rand"
	"runtime"
	"testing"

	"gantlet/api"
	"gantlet/meter"
)

// The kinds, told again.
const (
	resets = iota
	pings
	settings
	empties
	updates
	blocks
)

// highest is the highest limit that may be, told again.
const highest = 10000

// counts is what a meter counts, or its limits.
type counts = [6]int

// none are numbers that are no kinds: some about the edges, some that would be kinds, if
// they were cut to fewer bits.
var none = []int{
	-1, 6, -2, 7, -5, -6, 8, 100, 256, 257, 261, 1 << 16, 1<<16 + 5, 1 << 31, 1 << 32, 1<<32 + 1, 1<<32 + 5, -1 << 31,
	-1 << 32, -1<<32 + 3, math.MaxInt, math.MaxInt - 1, math.MinInt, math.MinInt + 1, math.MinInt + 5,
}

// made is a new meter.
func made(t *testing.T, limits counts) *meter.Meter {
	t.Helper()
	m, e := meter.New(limits)
	if m == nil || e != api.OK {
		t.Fatalf("New(%v) is %v, %d", limits, m, e)
	}
	return m
}

// all is one number, of each kind.
func all(n int) counts { return counts{n, n, n, n, n, n} }

// has tells whether a meter's counts are just these.
func has(t *testing.T, m *meter.Meter, want counts) {
	t.Helper()
	if got := m.Counts(); got != want {
		t.Errorf("the counts are %v, not %v", got, want)
	}
}

// counted tells whether Count answers just that.
func counted(t *testing.T, m *meter.Meter, kind int, want bool, wantError api.Errno) {
	t.Helper()
	if above, e := m.Count(kind); above != want || e != wantError {
		t.Errorf("Count(%d) is %t, %d, not %t, %d", kind, above, e, want, wantError)
	}
}

// cleared tells whether Clear answers just that.
func cleared(t *testing.T, m *meter.Meter, kind int, want api.Errno) {
	t.Helper()
	if e := m.Clear(kind); e != want {
		t.Errorf("Clear(%d) is %d, not %d", kind, e, want)
	}
}

// P18.1: there are 6 kinds.
func TestKinds(t *testing.T) {
	if meter.Kinds != 6 {
		t.Errorf("there are %d", meter.Kinds)
	}
}

// P18.1: a new meter counts nothing; a limit is from 0 to 10000, whichever kind's it
// is.
func TestNew(t *testing.T) {
	for _, n := range []int{0, 1, 2, 100, 9999, 10000} {
		has(t, made(t, all(n)), counts{})
		for kind := range 6 {
			var l counts
			l[kind] = n
			has(t, made(t, l), counts{})
		}
	}
}

// P18.1: no meter can have another limit, whichever kind's it is, and whatever the
// others are.
func TestNewWrong(t *testing.T) {
	wrong := []int{
		-1, 10001, -2, 10002, -10000, 20000, 1 << 16, 1<<16 + 1, 1 << 31, 1 << 32, 1<<32 + 1, -1 << 31, -1 << 32,
		math.MaxInt, math.MinInt, math.MinInt + 1,
	}
	for _, n := range wrong {
		for _, other := range []int{0, 1, 10000, -1, 10001, n} {
			for kind := range 6 {
				l := all(other)
				l[kind] = n
				if m, e := meter.New(l); m != nil || e != api.ErrArg {
					t.Errorf("New(%v) is %v, %d", l, m, e)
				}
			}
		}
	}
}

// P18.1: a count is above its limit from the one on that is one more than this; there
// it stops; other kinds' counts stay.
func TestCount(t *testing.T) {
	for kind := range 6 {
		for _, limit := range []int{0, 1, 2, 3, 9, 255, 256, 9999, 10000} {
			l := all(5)
			l[kind] = limit
			m := made(t, l)
			var want counts
			for i := 1; i <= limit+3; i++ {
				counted(t, m, kind, i > limit, api.OK)
				want[kind] = min(i, limit+1)
				has(t, m, want)
			}
		}
	}
}

// P18.1: a limit of 0: the first one is above it.
func TestCountZero(t *testing.T) {
	m := made(t, counts{})
	for kind := range 6 {
		counted(t, m, kind, true, api.OK)
		counted(t, m, kind, true, api.OK)
	}
	has(t, m, all(1))
}

// P18.1: each kind has a limit of its own.
func TestOwnLimits(t *testing.T) {
	m := made(t, counts{3, 1, 4, 0, 5, 2})
	for i := range 7 {
		for kind, limit := range []int{3, 1, 4, 0, 5, 2} {
			counted(t, m, kind, i+1 > limit, api.OK)
		}
	}
	has(t, m, counts{4, 2, 5, 1, 6, 3})
}

// P18.1: what is cleared is 0, be it above its limit, or not, or 0; other kinds' counts
// stay; a limit stays.
func TestClear(t *testing.T) {
	for kind := range 6 {
		for n := range 5 {
			m := made(t, all(2))
			want := all(1)
			for other := range 6 {
				counted(t, m, other, false, api.OK)
			}
			for i := range n {
				counted(t, m, kind, i >= 1, api.OK)
			}
			cleared(t, m, kind, api.OK)
			want[kind] = 0
			has(t, m, want)
			cleared(t, m, kind, api.OK)
			has(t, m, want)
			for i := range 4 {
				counted(t, m, kind, i >= 2, api.OK)
			}
		}
	}
}

// P18.1: a tick lets all counts be 0, but that of Blocks; limits stay.
func TestTick(t *testing.T) {
	m := made(t, all(2))
	m.Tick()
	has(t, m, counts{})
	for round := range 5 {
		for kind := range 6 {
			counted(t, m, kind, kind == blocks && round >= 2, api.OK)
		}
		want := all(1)
		want[blocks] = min(round+1, 3)
		has(t, m, want)
		m.Tick()
		want = counts{}
		want[blocks] = min(round+1, 3)
		has(t, m, want)
		m.Tick()
		has(t, m, want)
	}
}

// P18.1: each kind is what its name says: of the 6 numbers only that of Blocks goes on
// behind a tick.
func TestTickEach(t *testing.T) {
	for _, kind := range []int{resets, pings, settings, empties, updates, blocks} {
		m := made(t, all(1))
		counted(t, m, kind, false, api.OK)
		m.Tick()
		counted(t, m, kind, kind == blocks, api.OK)
	}
}

// P18.1: what is no kind is neither counted nor cleared, whatever the counts are.
func TestNoKind(t *testing.T) {
	m := made(t, counts{0, 1, 2, 3, 4, 5})
	want := counts{}
	for round := range 3 {
		for _, kind := range none {
			counted(t, m, kind, false, api.ErrArg)
			cleared(t, m, kind, api.ErrArg)
			has(t, m, want)
		}
		for kind := range 6 {
			counted(t, m, kind, round+1 > kind, api.OK)
			want[kind] = min(round+1, kind+1)
		}
	}
}

// P18.1: on a nil meter: an error, and counts of 0.
func TestNil(t *testing.T) {
	var m *meter.Meter
	for _, kind := range append([]int{0, 1, 2, 3, 4, 5}, none...) {
		counted(t, m, kind, false, api.ErrArg)
		cleared(t, m, kind, api.ErrArg)
		m.Tick()
		has(t, m, counts{})
	}
}

// A step is a number: from 0 on a kind to be counted, from 6 on one to be cleared; 12 is
// a tick.
const tick = 12

// told tells whether a count is above its limit behind steps, as P18.2 has it: all
// that came since it was cleared, by Clear, or, but for Blocks, by a tick.
func told(limits counts, steps []int, kind int) bool {
	came := 0
	for _, s := range steps {
		switch {
		case s == kind:
			came++
		case s == kind+6, s == tick && kind != blocks:
			came = 0
		}
	}
	return came > limits[kind]
}

// do lets a step happen to a meter, which ought to answer as it is told.
func do(t *testing.T, m *meter.Meter, limits counts, done []int) {
	t.Helper()
	switch s := done[len(done)-1]; {
	case s == tick:
		m.Tick()
	case s >= 6:
		cleared(t, m, s-6, api.OK)
	default:
		counted(t, m, s, told(limits, done, s), api.OK)
	}
}

// agrees tells whether just those counts are above their limits of which that is told.
func agrees(t *testing.T, m *meter.Meter, limits counts, done []int) {
	t.Helper()
	for kind, n := range m.Counts() {
		if want := told(limits, done, kind); n > limits[kind] != want || n < 0 || n > limits[kind]+1 {
			t.Fatalf("%v, %v: the count of %d is %d", limits, done, kind, n)
		}
	}
}

// P18.2: a count is above its limit just if more than that came since it was cleared,
// or, but for Blocks, since the last tick: all ways of 6 steps on two kinds.
func TestLately(t *testing.T) {
	steps := []int{pings, pings + 6, blocks, blocks + 6, tick}
	for limit := range 4 {
		limits := counts{0, limit, 0, 0, 0, 3 - limit}
		for way := range 5 * 5 * 5 * 5 * 5 * 5 {
			m := made(t, limits)
			var done []int
			for range 6 {
				done = append(done, steps[way%5])
				way /= 5
				do(t, m, limits, done)
			}
			agrees(t, m, limits, done)
		}
	}
}

// P18.2: so do long ways of whatever steps.
func TestLatelyLong(t *testing.T) {
	r := rand.New(rand.NewSource(1))
	for range 100 {
		var limits counts
		for kind := range limits {
			limits[kind] = r.Intn(8)
		}
		m := made(t, limits)
		var done []int
		for range 200 {
			s := r.Intn(6)
			if r.Intn(8) == 0 {
				s = 6 + r.Intn(7)
			}
			done = append(done, s)
			do(t, m, limits, done)
			agrees(t, m, limits, done)
		}
	}
}

// P18.2: more than the greatest limit, since the last tick: that many ahead of it are
// forgotten.
func TestLatelyGreatest(t *testing.T) {
	for kind := range 6 {
		m := made(t, all(highest))
		for round := range 3 {
			for i := range highest {
				if above, e := m.Count(kind); above != (kind == blocks && round > 0) || e != api.OK {
					t.Fatalf("%d, %d of kind %d: %t, %d", round, i, kind, above, e)
				}
			}
			m.Tick()
		}
	}
}

// P1: every call ends, and none panics, at all arguments, a nil meter too.
func TestNoPanic(t *testing.T) {
	r := rand.New(rand.NewSource(2))
	for range 500 {
		var l counts
		for kind := range l {
			l[kind] = r.Intn(highest + 2)
		}
		m, _ := meter.New(l)
		for range 100 {
			kind := int(r.Uint64()>>r.Intn(64)) * (r.Intn(3) - 1)
			m.Count(kind)
			m.Clear(kind)
			m.Count(r.Intn(8) - 1)
			m.Tick()
			if got := m.Counts(); got[0] != 0 || got[blocks] < 0 {
				t.Fatalf("the counts are %v", got)
			}
		}
	}
}

// P2: the same calls are answered alike, whatever happens to other meters; asking for
// the counts changes nothing.
func TestSameAgain(t *testing.T) {
	r := rand.New(rand.NewSource(3))
	for range 50 {
		limits := counts{r.Intn(9), r.Intn(9), r.Intn(9), r.Intn(9), r.Intn(9), r.Intn(9)}
		x, y, other := made(t, limits), made(t, limits), made(t, limits)
		for range 200 {
			kind := r.Intn(8) - 1
			above, e := x.Count(kind)
			other.Count(r.Intn(6))
			for range r.Intn(3) {
				y.Counts()
			}
			counted(t, y, kind, above, e)
			if r.Intn(9) == 0 {
				x.Tick()
				y.Tick()
			}
			if r.Intn(9) == 0 {
				cleared(t, y, kind, x.Clear(kind))
			}
			has(t, y, x.Counts())
		}
	}
}

// P2: what is handed in is not kept, and what is answered is new: whoever writes into
// these changes nothing.
func TestNewMemory(t *testing.T) {
	limits := all(1)
	m := made(t, limits)
	limits = all(0)
	for kind := range 6 {
		counted(t, m, kind, false, api.OK)
	}
	got := m.Counts()
	got = all(-7)
	has(t, m, all(1))
	got = m.Counts()
	m.Tick()
	if got != all(1) || limits != all(0) {
		t.Errorf("%v, %v", got, limits)
	}
}

// inUse is how much memory is held, now that nothing else is.
func inUse() int {
	var m runtime.MemStats
	runtime.GC()
	runtime.ReadMemStats(&m)
	return int(m.HeapAlloc)
}

// What is held does not grow by what is counted.
func TestLean(t *testing.T) {
	ahead := inUse()
	m := made(t, all(highest))
	for i := range 1000000 {
		m.Count(i % 6)
	}
	if held := inUse() - ahead; held > 1<<18 {
		t.Errorf("%d bytes are held", held)
	}
	has(t, m, all(highest+1))
}
