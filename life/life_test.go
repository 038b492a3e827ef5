package life_test

import (
	"math"
	"math/rand"
	"strings"
	"testing"

	"gantlet/api"
	"gantlet/life"
)

// states are all, in their order, by the names that the document's table has.
var states = []string{"Idle", "Open", "PeerDone", "OwnDone", "Closed"}

// cells are the document's table, told again: a line a state, a cell an event.
const cells = `
Open | PeerDone | Protocol, connection | Protocol, connection | Protocol, connection | Protocol, connection | - | - | -
Protocol, stream | PeerDone | Open | PeerDone | Closed | Open | Open | OwnDone | Closed
Gone, stream | Gone, stream | Gone, stream | Gone, stream | Closed | PeerDone | PeerDone | Closed | Closed
Protocol, stream | Closed | OwnDone | Closed | Closed | OwnDone | - | - | Closed
Gone, connection | Gone, connection | Gone, connection | Gone, connection | Closed | Closed | - | - | -
`

// events is how many there are.
const events = 9

// cell is the document's, of a state and an event.
func cell(s, e int) string {
	line := strings.Split(strings.TrimSpace(cells), "\n")[s]
	return strings.TrimSpace(strings.Split(line, "|")[e])
}

// numbered is the state of a name; -1, if that is none's.
func numbered(name string) life.State {
	for i, known := range states {
		if known == name {
			return life.State(i)
		}
	}
	return -1
}

// told is the document's words, told again.
func told(s, e int) (life.Next, api.Errno) {
	if s < 0 || s >= len(states) || e < 0 || e >= events {
		return life.Next{}, api.ErrArg
	}
	name := cell(s, e)
	if name == "-" {
		return life.Next{}, api.ErrState
	}
	if next := numbered(name); next >= 0 {
		return life.Next{State: next}, api.OK
	}
	code, of, _ := strings.Cut(name, ", ")
	n := life.Next{State: life.State(s), Code: 1, Whole: of == "connection"}
	if code == "Gone" {
		n.Code = 5
	}
	return n, api.OK
}

// isFault tells whether that is one: of the connection, or of a stream.
func isFault(n life.Next) bool { return n.Code != api.NoError }

// answers tells whether After answers just that.
func answers(t *testing.T, s life.State, e life.Event, want life.Next, err api.Errno) {
	t.Helper()
	if n, got := life.After(s, e); n != want || got != err {
		t.Errorf("After(%d, %d) is %v %d, not %v %d", s, e, n, got, want, err)
	}
}

// makes tells whether an event makes a state of another one.
func makes(t *testing.T, s life.State, e life.Event, want life.State) {
	t.Helper()
	answers(t, s, e, life.Next{State: want, Code: api.NoError, Whole: false}, api.OK)
}

// fails tells whether an event is a fault of a state, which stays.
func fails(t *testing.T, s life.State, e life.Event, code api.Code, whole bool) {
	t.Helper()
	answers(t, s, e, life.Next{State: s, Code: code, Whole: whole}, api.OK)
}

// far are numbers that are no state's, and no event's: some about the edges, some
// that would be one's, if they were cut to fewer bits.
var far = []int{
	-1, -2, -5, -9, -256, -1 << 31, -1 << 32, math.MinInt, math.MinInt + 1,
	9, 10, 11, 255, 256, 257, 260, 1 << 16, 1<<16 + 3, 1 << 31, 1 << 32, 1<<32 + 1, 1<<32 + 4, math.MaxInt - 1, math.MaxInt,
}

// P16.1: the numbers of all states, and of all events.
func TestNumbers(t *testing.T) {
	for want, s := range []life.State{life.Idle, life.Open, life.PeerDone, life.OwnDone, life.Closed} {
		if int(s) != want {
			t.Errorf("%s is %d", states[want], s)
		}
	}
	for want, e := range []life.Event{life.HeadersIn, life.HeadersLast, life.DataIn, life.DataLast, life.ResetIn, life.UpdateIn, life.Sent, life.SentLast, life.ResetOut} {
		if int(e) != want {
			t.Errorf("event %d is %d", want, e)
		}
	}
}

// P16.1: what an event makes of a state: the next one, and NoError.
func TestNext(t *testing.T) {
	makes(t, life.Idle, life.HeadersIn, life.Open)
	makes(t, life.Idle, life.HeadersLast, life.PeerDone)
	makes(t, life.Open, life.HeadersLast, life.PeerDone)
	makes(t, life.Open, life.DataIn, life.Open)
	makes(t, life.Open, life.DataLast, life.PeerDone)
	makes(t, life.Open, life.Sent, life.Open)
	makes(t, life.Open, life.SentLast, life.OwnDone)
	makes(t, life.PeerDone, life.Sent, life.PeerDone)
	makes(t, life.PeerDone, life.SentLast, life.Closed)
	makes(t, life.OwnDone, life.DataIn, life.OwnDone)
	makes(t, life.OwnDone, life.DataLast, life.Closed)
	makes(t, life.OwnDone, life.HeadersLast, life.Closed)
	for _, s := range []life.State{life.Open, life.PeerDone, life.OwnDone, life.Closed} {
		makes(t, s, life.ResetIn, life.Closed)
		makes(t, s, life.UpdateIn, s)
	}
	for _, s := range []life.State{life.Open, life.PeerDone, life.OwnDone} {
		makes(t, s, life.ResetOut, life.Closed)
	}
}

// P16.1: what is a fault: the state as it was, the code, and whose fault it is.
func TestFaults(t *testing.T) {
	for _, e := range []life.Event{life.DataIn, life.DataLast, life.ResetIn, life.UpdateIn} {
		fails(t, life.Idle, e, api.Protocol, true)
	}
	fails(t, life.Open, life.HeadersIn, api.Protocol, false)
	fails(t, life.OwnDone, life.HeadersIn, api.Protocol, false)
	for _, e := range []life.Event{life.HeadersIn, life.HeadersLast, life.DataIn, life.DataLast} {
		fails(t, life.PeerDone, e, api.StreamClosed, false)
		fails(t, life.Closed, e, api.StreamClosed, true)
	}
}

// P16.1: what cannot be.
func TestCannotBe(t *testing.T) {
	for _, s := range []life.State{life.Idle, life.OwnDone, life.Closed} {
		answers(t, s, life.Sent, life.Next{}, api.ErrState)
		answers(t, s, life.SentLast, life.Next{}, api.ErrState)
	}
	answers(t, life.Idle, life.ResetOut, life.Next{}, api.ErrState)
	answers(t, life.Closed, life.ResetOut, life.Next{}, api.ErrState)
}

// P16.1: no such state, or event; the nearest ones too.
func TestAfterWrong(t *testing.T) {
	for e := life.HeadersIn; e <= life.ResetOut; e++ {
		answers(t, life.Idle-1, e, life.Next{}, api.ErrArg)
		answers(t, life.Closed+1, e, life.Next{}, api.ErrArg)
		for _, s := range far {
			answers(t, life.State(s), e, life.Next{}, api.ErrArg)
		}
	}
	for s := life.Idle; s <= life.Closed; s++ {
		for _, e := range far {
			answers(t, s, life.Event(e), life.Next{}, api.ErrArg)
		}
	}
	for _, s := range far {
		for _, e := range far {
			answers(t, life.State(s), life.Event(e), life.Next{}, api.ErrArg)
		}
	}
}

// P16.1: all is as the document's table, told again, has it.
func TestTold(t *testing.T) {
	for s := -3; s < len(states)+3; s++ {
		for e := -3; e < events+3; e++ {
			want, err := told(s, e)
			answers(t, life.State(s), life.Event(e), want, err)
		}
	}
}

// P16.1: in which states the peer may say more, or more may be sent: in none that
// there isn't.
func TestHearsAndSays(t *testing.T) {
	for s, want := range [][2]bool{{false, false}, {true, true}, {false, true}, {true, false}, {false, false}} {
		if life.Hears(life.State(s)) != want[0] || life.Says(life.State(s)) != want[1] {
			t.Errorf("%s: %t, %t", states[s], !want[0], !want[1])
		}
	}
	for _, s := range append([]int{5, 6, 7, 8}, far...) {
		if life.Hears(life.State(s)) || life.Says(life.State(s)) {
			t.Errorf("%d: there is no such state", s)
		}
	}
}

// P16.1: the peer may say more where its Data are no fault; more may be sent where
// that can be.
func TestHearsAndSaysAsAfter(t *testing.T) {
	for s := life.Idle; s <= life.Closed; s++ {
		n, e := life.After(s, life.DataIn)
		if life.Hears(s) != (e == api.OK && !isFault(n)) {
			t.Errorf("%d: Hears is %t", s, life.Hears(s))
		}
		n, e = life.After(s, life.Sent)
		if life.Says(s) != (e == api.OK && !isFault(n)) {
			t.Errorf("%d: Says is %t", s, life.Says(s))
		}
	}
}

// passed is what happened to a stream, in words that know of no table.
type passed struct {
	begun, peerLast, ownLast, reset bool
}

// with is what happened, and an event that was let through.
func (p passed) with(e life.Event) passed {
	p.begun = true
	switch e {
	case life.HeadersLast, life.DataLast:
		p.peerLast = true
	case life.SentLast:
		p.ownLast = true
	case life.ResetIn, life.ResetOut:
		p.reset = true
	}
	return p
}

// closed tells whether a stream is.
func (p passed) closed() bool { return p.reset || p.peerLast && p.ownLast }

// state is the one that a stream has then.
func (p passed) state() life.State {
	switch {
	case !p.begun:
		return life.Idle
	case p.closed():
		return life.Closed
	case p.peerLast:
		return life.PeerDone
	case p.ownLast:
		return life.OwnDone
	}
	return life.Open
}

// saysMore tells whether an event is more that the peer says.
func saysMore(e life.Event) bool { return life.HeadersIn <= e && e <= life.DataLast }

// check tells whether what an event makes of a state keeps what is promised of a
// stream to which all that happened.
func check(t *testing.T, p passed, e life.Event, n life.Next, err api.Errno) {
	t.Helper()
	s := p.state()
	done := p.peerLast || p.closed()
	if done && saysMore(e) && !isFault(n) {
		t.Errorf("%v: the peer said all, and %d is let through", p, e)
	}
	if (p.ownLast || p.closed()) && (e == life.Sent || e == life.SentLast) && err != api.ErrState {
		t.Errorf("%v: all was sent, and %d is let through", p, e)
	}
	if done && life.Hears(s) || (p.ownLast || p.closed()) && life.Says(s) {
		t.Errorf("%v: more may be said", p)
	}
	if p.closed() && err == api.OK && n.State != life.Closed {
		t.Errorf("%v: it was closed, and is %d", p, n.State)
	}
	if isFault(n) && (err != api.OK || n.State != s) {
		t.Errorf("%v: a fault of %d, with %d, %d", p, e, n.State, err)
	}
	if isFault(n) && !n.Whole {
		makes(t, n.State, life.ResetOut, life.Closed)
	}
}

// walk lets happen all that may to a stream, so many events on.
func walk(t *testing.T, p passed, s life.State, left int) int {
	if left == 0 {
		return 1
	}
	count := 0
	for e := life.HeadersIn; e <= life.ResetOut; e++ {
		n, err := life.After(s, e)
		check(t, p, e, n, err)
		if err != api.OK || isFault(n) {
			count += walk(t, p, s, left-1)
			continue
		}
		then := p.with(e)
		if n.State != then.state() {
			t.Fatalf("%v, and %d: %d", p, e, n.State)
		}
		count += walk(t, then, n.State, left-1)
	}
	return count
}

// P16.2: in whatever order whatever happens, who has said all says no more, and a
// closed stream stays so; and just what happened tells the state.
func TestDoneIsDone(t *testing.T) {
	if count := walk(t, passed{}, life.Idle, 6); count != 531441 {
		t.Errorf("%d ways", count)
	}
}

// P16.2: a closed stream stays so, whatever comes, however long.
func TestClosedStays(t *testing.T) {
	r := rand.New(rand.NewSource(16))
	for range 1000 {
		s := life.Idle
		was := false
		for range 100 {
			n, e := life.After(s, life.Event(r.Intn(events)))
			if e == api.OK {
				s = n.State
			}
			if was && s != life.Closed {
				t.Fatalf("closed, and then %d", s)
			}
			was = was || s == life.Closed
		}
	}
}

// P16.2: behind a stream's fault it can be closed by a reset; a fault where it can't
// be closed so is of the connection.
func TestResetBehindAFault(t *testing.T) {
	found := 0
	for s := life.Idle; s <= life.Closed; s++ {
		for e := life.HeadersIn; e <= life.ResetOut; e++ {
			n, err := life.After(s, e)
			if err != api.OK || !isFault(n) {
				continue
			}
			if n.Whole != (s == life.Idle || s == life.Closed) {
				t.Errorf("%d, %d: of the connection: %t", s, e, n.Whole)
			}
			if !n.Whole {
				makes(t, n.State, life.ResetOut, life.Closed)
				found++
			}
		}
	}
	if found != 6 {
		t.Errorf("%d faults of a stream", found)
	}
}

// P1: every call ends, and none panics, at all arguments.
func TestNoPanic(t *testing.T) {
	r := rand.New(rand.NewSource(1))
	for range 100000 {
		s, e := int(r.Uint64()>>r.Intn(64)), int(r.Uint64()>>r.Intn(64))
		if r.Intn(2) == 0 {
			s = -s
		}
		if r.Intn(2) == 0 {
			e = r.Intn(events)
		}
		want, err := told(s, e)
		answers(t, life.State(s), life.Event(e), want, err)
		hears, says := s == 1 || s == 3, s == 1 || s == 2
		if life.Hears(life.State(s)) != hears || life.Says(life.State(s)) != says {
			t.Errorf("%d: %t, %t", s, !hears, !says)
		}
	}
}

// P2: an answer hangs on what was asked alone: what was asked ahead of it, and what
// became of that answer, changes nothing.
func TestAsksAlone(t *testing.T) {
	r := rand.New(rand.NewSource(2))
	for range 20000 {
		s, e := r.Intn(len(states)+2)-1, r.Intn(events+2)-1
		want, err := told(s, e)
		n, got := life.After(life.State(s), life.Event(e))
		if n != want || got != err {
			t.Fatalf("After(%d, %d) is %v %d", s, e, n, got)
		}
		n.State, n.Code, n.Whole = life.State(r.Intn(5)), api.Internal, true
		answers(t, life.State(s), life.Event(e), want, err)
	}
}
