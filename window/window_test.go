package window_test

import (
	"math"
	"math/big"
	"math/rand"
	"slices"
	"testing"

	"gantlet/api"
	"gantlet/window"
)

// The document's numbers, told again.
const (
	least = -2147483648
	most  = 2147483647
)

// call is one that makes a window of a window and a number.
type call func(w, n int) (int, bool)

// names are those of all of them.
var names = []string{"Grow", "Take", "Shift"}

// named is the one of that name.
func named(name string) call {
	switch name {
	case "Grow":
		return window.Grow
	case "Take":
		return window.Take
	}
	return window.Shift
}

// edges are numbers about those where an answer may change, and about those where
// a sum may wrap round; rising.
func edges() []int {
	var l []int
	for _, n := range []int{math.MinInt + 3, math.MinInt + 1<<31, -1 << 33, -1 << 32, 2 * least, least, -1 << 30, -65535, 0, 65535, 1 << 30, most, 2 * most, 1 << 32, 1 << 33, math.MaxInt - 1<<31, math.MaxInt - 3} {
		for d := -3; d <= 3; d++ {
			l = append(l, n+d)
		}
	}
	slices.Sort(l)
	return slices.Compact(l)
}

// number is one of any size, about as often a window as not.
func number(r *rand.Rand) int {
	if r.Intn(3) == 0 {
		l := edges()
		return l[r.Intn(len(l))]
	}
	n := int(r.Uint64() >> r.Intn(64))
	if r.Intn(2) == 0 {
		return -n
	}
	return n
}

// some is a window.
func some(r *rand.Rand) int { return least + r.Intn(1<<32) }

// whole is a number of which sums have no end.
func whole(n int) *big.Int { return big.NewInt(int64(n)) }

// from tells whether a number is from a least one to a greatest one.
func from(n *big.Int, least, most int) bool {
	return n.Cmp(whole(least)) >= 0 && n.Cmp(whole(most)) <= 0
}

// told is the document's words, told again in numbers that have no end.
func told(name string, w, n int) (int, bool) {
	a, b := whole(w), whole(n)
	made, may := new(big.Int), false
	switch name {
	case "Grow":
		made.Add(a, b)
		may = from(b, 0, most)
	case "Take":
		made.Sub(a, b)
		may = b.Sign() >= 0 && b.Cmp(a) <= 0
	case "Shift":
		made.Add(a, b)
		may = from(b, -most, most)
	}
	if !from(a, least, most) || !may || !from(made, least, most) {
		return w, false
	}
	return int(made.Int64()), true
}

// answers tells whether a call answers just that.
func answers(t *testing.T, name string, w, n, want int, ok bool) {
	t.Helper()
	if made, done := named(name)(w, n); made != want || done != ok {
		t.Errorf("%s(%d, %d) is %d %t, not %d %t", name, w, n, made, done, want, ok)
	}
}

// makes tells whether a call makes another window.
func makes(t *testing.T, name string, w, n, want int) {
	t.Helper()
	answers(t, name, w, n, want, true)
}

// stays tells whether a call leaves a window as it is.
func stays(t *testing.T, name string, w, n int) {
	t.Helper()
	answers(t, name, w, n, w, false)
}

// has tells whether there is just so much room.
func has(t *testing.T, want, n int, l ...int) {
	t.Helper()
	if room := window.Room(n, l...); room != want {
		t.Errorf("Room(%d, %v) is %d, not %d", n, l, room, want)
	}
}

// P15.1: the least one.
func TestLeast(t *testing.T) {
	if window.Least != least || api.MaxWindow != most {
		t.Errorf("from %d to %d", window.Least, api.MaxWindow)
	}
}

// P15.1: what is a window, and what is none.
func TestRight(t *testing.T) {
	for _, w := range []int{least, least + 1, -65535, -1, 0, 1, 65535, most - 1, most} {
		if !window.Right(w) {
			t.Errorf("%d is none", w)
		}
	}
	for _, w := range []int{math.MinInt, math.MinInt + 1, -1 << 32, least - 2, least - 1, most + 1, most + 2, 1 << 32, math.MaxInt - 1, math.MaxInt} {
		if window.Right(w) {
			t.Errorf("%d is one", w)
		}
	}
	for _, w := range edges() {
		if window.Right(w) != from(whole(w), least, most) {
			t.Errorf("%d: %t", w, window.Right(w))
		}
	}
}

// P15.1: a window with more; from below 0 too, and with as much as it may be.
func TestGrow(t *testing.T) {
	for _, x := range []struct{ w, n, want int }{
		{0, 0, 0}, {0, 1, 1}, {65535, 1000, 66535}, {-5, 3, -2}, {-5, 5, 0}, {-5, 6, 1},
		{0, most, most}, {-1, most, most - 1}, {-5, most, most - 5}, {1, most - 1, most}, {most - 7, 7, most},
		{most, 0, most}, {least, 0, least}, {least, 1, least + 1}, {least, most, -1},
	} {
		makes(t, "Grow", x.w, x.n, x.want)
	}
}

// P15.1: the window stays, if it is none, the number may not be, or no window would
// be made.
func TestGrowWrong(t *testing.T) {
	for _, n := range []int{0, 1, 5, most, -1, math.MaxInt, math.MinInt} {
		for _, w := range []int{least - 1, most + 1, 1 << 32, -1 << 32, math.MinInt, math.MaxInt} {
			stays(t, "Grow", w, n)
		}
	}
	for _, w := range []int{least, least + 1, -5, -1, 0, 1, 5, most - 1, most} {
		for _, n := range []int{-1, -2, least, -most, math.MinInt, most + 1, 1 << 32, math.MaxInt} {
			stays(t, "Grow", w, n)
		}
	}
	for _, x := range [][2]int{{most, 1}, {most, most}, {most - 7, 8}, {1, most}, {65535, most - 65534}} {
		stays(t, "Grow", x[0], x[1])
	}
}

// P15.1: a window with less; with as much as it has too.
func TestTake(t *testing.T) {
	for _, x := range []struct{ w, n, want int }{
		{0, 0, 0}, {5, 0, 5}, {5, 1, 4}, {5, 5, 0}, {65535, 16384, 49151},
		{most, 0, most}, {most, 1, most - 1}, {most, most, 0}, {most - 1, most - 1, 0},
	} {
		makes(t, "Take", x.w, x.n, x.want)
	}
}

// P15.1: the window stays, if it is none, or the number is below 0, or above it:
// from one below 0 not even 0 is taken.
func TestTakeWrong(t *testing.T) {
	for _, n := range []int{0, 1, 5, most, -1, math.MaxInt, math.MinInt} {
		for _, w := range []int{least - 1, most + 1, 1 << 32, -1 << 32, math.MinInt, math.MaxInt} {
			stays(t, "Take", w, n)
		}
	}
	for _, w := range []int{least, least + 1, -5, -1} {
		for _, n := range []int{0, 1, 5, most, -1, -5, -6, least, math.MaxInt, math.MinInt} {
			stays(t, "Take", w, n)
		}
	}
	for _, w := range []int{0, 1, 5, most - 1, most} {
		for _, n := range []int{w + 1, w + 2, -1, -2, least, math.MinInt, most + 1, 1 << 32, math.MaxInt} {
			stays(t, "Take", w, n)
		}
	}
}

// P15.1: a window with more, or less.
func TestShift(t *testing.T) {
	for _, x := range []struct{ w, by, want int }{
		{0, 0, 0}, {5, 4, 9}, {5, -9, -4}, {-4, 9, 5}, {65535, -65536, -1},
		{0, most, most}, {0, -most, -most}, {most, -most, 0}, {-1, -most, least}, {most, 0, most}, {most, -1, most - 1},
		{least, 0, least}, {least, 1, least + 1}, {least, most, -1}, {-most, -1, least}, {most - 1, 1, most},
	} {
		makes(t, "Shift", x.w, x.by, x.want)
	}
}

// P15.1: the window stays, if it is none, the number may not be, or no window would
// be made.
func TestShiftWrong(t *testing.T) {
	for _, by := range []int{0, 1, -1, 5, -5, most, -most, math.MaxInt, math.MinInt} {
		for _, w := range []int{least - 1, most + 1, 1 << 32, -1 << 32, math.MinInt, math.MaxInt} {
			stays(t, "Shift", w, by)
		}
	}
	for _, w := range []int{least, least + 1, -5, -1, 0, 1, 5, most - 1, most} {
		for _, by := range []int{least, least - 1, most + 1, most + 2, 1 << 32, -1 << 32, math.MinInt, math.MaxInt} {
			stays(t, "Shift", w, by)
		}
	}
	for _, x := range [][2]int{{least, -1}, {least, -most}, {most, 1}, {most, most}, {1, most}, {-2, -most}, {least + 5, -6}, {most - 5, 6}} {
		stays(t, "Shift", x[0], x[1])
	}
}

// P15.1: the least of the number, and all windows, wherever it stands; 0, if that
// is below 0.
func TestRoom(t *testing.T) {
	has(t, 7, 9, 7, 8)
	has(t, 7, 9, 8, 7)
	has(t, 7, 7, 8, 9)
	has(t, 9, 9)
	has(t, 9, 9, 9)
	has(t, 8, 9, 8)
	has(t, 9, 9, 10)
	has(t, 1, 5, 4, 3, 2, 1, 2, 3, 4)
	has(t, 0, 0)
	has(t, 0, 0, 7, 8)
	has(t, 0, 9, 7, 0, 8)
	for _, below := range []int{-1, -5, least, least - 1, math.MinInt} {
		has(t, 0, below)
		has(t, 0, below, 5)
		has(t, 0, below, -7)
		has(t, 0, 9, below)
		has(t, 0, 9, below, 7)
		has(t, 0, 9, 7, below)
	}
	has(t, most, most, most)
	has(t, most-1, most, most, most-1)
	has(t, most, math.MaxInt, most)
	has(t, math.MaxInt, math.MaxInt)
}

// P15.1: whatever is asked, all is as the document's words, told again, have it.
func TestTold(t *testing.T) {
	for _, name := range names {
		for _, w := range edges() {
			for _, n := range edges() {
				want, ok := told(name, w, n)
				answers(t, name, w, n, want, ok)
			}
		}
	}
	r := rand.New(rand.NewSource(15))
	for range 100000 {
		for _, name := range names {
			w, n := number(r), number(r)
			if r.Intn(2) == 0 {
				w = some(r)
			}
			want, ok := told(name, w, n)
			answers(t, name, w, n, want, ok)
		}
		l := make([]int, r.Intn(6))
		for i := range l {
			l[i] = number(r)
		}
		n := number(r)
		has(t, max(0, slices.Min(append([]int{n}, l...))), n, l...)
	}
}

// P15.2: what grew, and is taken, is as it was; what is taken, and grows, too; and
// what is shifted, and shifted back.
func TestThereAndBack(t *testing.T) {
	r := rand.New(rand.NewSource(152))
	grew, took, moved := 0, 0, 0
	for range 200000 {
		w, n := some(r), number(r)
		if r.Intn(2) == 0 {
			n = some(r)
		}
		if made, ok := window.Grow(w, n); ok && made >= n {
			makes(t, "Take", made, n, w)
			grew++
		}
		if made, ok := window.Take(w, n); ok {
			makes(t, "Grow", made, n, w)
			took++
		}
		if made, ok := window.Shift(w, n); ok {
			makes(t, "Shift", made, -n, w)
			moved++
		}
	}
	if min(grew, took, moved) < 1000 {
		t.Errorf("%d grew, %d were taken of, %d were shifted", grew, took, moved)
	}
}

// P15.2: what is made of a window, however often, is a window, never above 2^31 less
// 1, and just the sum of what was done.
func TestNeverAbove(t *testing.T) {
	r := rand.New(rand.NewSource(2))
	for range 300 {
		w := some(r)
		sum := whole(w)
		for range 200 {
			n := number(r)
			made, ok, by := 0, false, n
			switch r.Intn(3) {
			case 0:
				made, ok = window.Grow(w, n)
			case 1:
				made, ok = window.Take(w, n)
				by = -n
			default:
				made, ok = window.Shift(w, n)
			}
			if ok {
				sum.Add(sum, whole(by))
			}
			w = made
			if !window.Right(w) || w > most || sum.Cmp(whole(w)) != 0 {
				t.Fatalf("%d, not %d", w, sum)
			}
		}
	}
}

// takes tells whether so much can be taken of all windows.
func takes(n int, l []int) bool {
	return !slices.ContainsFunc(l, func(w int) bool {
		_, ok := window.Take(w, n)
		return !ok
	})
}

// P15.2: room, of windows that are 0 or more, is what can be taken of all, and of a
// number: so much, and no more.
func TestRoomIsTaken(t *testing.T) {
	r := rand.New(rand.NewSource(3))
	for range 50000 {
		high := []int{3, 100, 65536, 1 << 31}[r.Intn(4)]
		l := make([]int, r.Intn(6))
		for i := range l {
			l[i] = r.Intn(high)
		}
		n := r.Intn(high)
		room := window.Room(n, l...)
		if room < 0 || room > n || !takes(room, l) {
			t.Fatalf("Room(%d, %v) is %d", n, l, room)
		}
		if room < n && takes(room+1, l) {
			t.Fatalf("Room(%d, %v) is %d: there is more", n, l, room)
		}
	}
}

// P1: every call ends, and none panics, at all arguments.
func TestNoPanic(t *testing.T) {
	for _, w := range edges() {
		window.Right(w)
		for _, n := range edges() {
			for _, name := range names {
				if made, ok := named(name)(w, n); !ok && made != w || ok && !window.Right(made) {
					t.Errorf("%s(%d, %d): %d %t", name, w, n, made, ok)
				}
			}
			if room := window.Room(w, n, w, n); room < 0 {
				t.Errorf("Room of %d and %d: %d", w, n, room)
			}
		}
	}
	has(t, 4, 5, slices.Repeat([]int{4}, 1<<20)...)
	has(t, 3, 3, nil...)
	has(t, 3, 3, []int{}...)
}

// P2: the same calls are answered alike, whatever was asked between them.
func TestSameAgain(t *testing.T) {
	r := rand.New(rand.NewSource(4))
	for range 2000 {
		w, n := number(r), number(r)
		room, right := window.Room(w, n), window.Right(w)
		for _, name := range names {
			made, ok := named(name)(w, n)
			for _, other := range names {
				named(other)(number(r), number(r))
			}
			answers(t, name, w, n, made, ok)
		}
		has(t, room, w, n)
		if window.Right(w) != right {
			t.Errorf("Right(%d) is no longer %t", w, right)
		}
	}
}

// P2: windows that are handed in are not written into; what lies behind their length
// is neither read nor written.
func TestHandedIn(t *testing.T) {
	r := rand.New(rand.NewSource(5))
	for range 2000 {
		memory := make([]int, 12)
		for i := range memory {
			memory[i] = number(r)
		}
		ahead, length, n := slices.Clone(memory), r.Intn(len(memory)), number(r)
		room := window.Room(n, memory[:length]...)
		if !slices.Equal(memory, ahead) {
			t.Fatalf("%v became %v", ahead, memory)
		}
		for i := length; i < len(memory); i++ {
			memory[i] = number(r)
		}
		has(t, room, n, memory[:length]...)
	}
}
