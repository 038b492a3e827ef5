package payload_test

import (
	"bytes"
	"encoding/binary"
	"math"
	"math/rand"
	"slices"
	"strconv"
	"testing"

	"gantlet/api"
	"gantlet/frame"
	"gantlet/payload"
)

// sent is a frame.
func sent(kind api.Kind, flags, stream int, b ...byte) api.Frame {
	return api.Frame{Kind: kind, Flags: flags, Stream: stream, Payload: b}
}

// text is a frame, short enough to be told.
func text(f api.Frame) string {
	s := strconv.Itoa(int(f.Kind)) + " " + strconv.Itoa(f.Flags) + " " + strconv.Itoa(f.Stream)
	for _, b := range f.Payload[:min(len(f.Payload), 20)] {
		s += "," + strconv.Itoa(int(b))
	}
	return s + " of " + strconv.Itoa(len(f.Payload)) + " bytes"
}

// alike tells whether two say the same; no bytes, and no pairs, may be nil or not.
func alike(p, q payload.Parts) bool {
	return bytes.Equal(p.Bytes, q.Bytes) && slices.Equal(p.Pairs, q.Pairs) &&
		p.Code == q.Code && p.Last == q.Last && p.Add == q.Add && p.Flow == q.Flow &&
		p.End == q.End && p.Whole == q.Whole && p.Acked == q.Acked
}

// says tells whether a frame says just that.
func says(t *testing.T, f api.Frame, want payload.Parts) {
	t.Helper()
	p, fault, ok := payload.Read(f)
	if !ok || fault != (api.Fault{}) || !alike(p, want) {
		t.Errorf("%s: %v %v %t, not %v", text(f), p, fault, ok, want)
	}
}

// fails tells whether a frame has just that fault.
func fails(t *testing.T, f api.Frame, code api.Code, stream int) {
	t.Helper()
	p, fault, ok := payload.Read(f)
	if ok || fault != (api.Fault{Code: code, Stream: stream}) || !alike(p, payload.Parts{}) {
		t.Errorf("%s: %v %v %t, not %d of %d", text(f), p, fault, ok, code, stream)
	}
}

// The document's table, told again: what holds of a frame that has a fault.

// rule is one of the faults.
type rule struct {
	kind  api.Kind
	code  api.Code
	own   bool // of the frame's stream
	holds func(f api.Frame) bool
}

func flag(f api.Frame, n int) bool    { return f.Flags/n%2 == 1 }
func onNone(f api.Frame) bool         { return f.Stream == 0 }
func onSome(f api.Frame) bool         { return f.Stream != 0 }
func always(api.Frame) bool           { return true }
func noPadSize(f api.Frame) bool      { return flag(f, 8) && len(f.Payload) == 0 }
func tooMuchPadding(f api.Frame) bool { return flag(f, 8) && len(f.Payload) <= int(f.Payload[0]) }
func lacksPriority(f api.Frame) bool  { return flag(f, 32) && len(inner(f)) < 5 }
func headsItself(f api.Frame) bool    { return flag(f, 32) && word(inner(f))%(1<<31) == f.Stream }
func leansOnItself(f api.Frame) bool  { return word(f.Payload)%(1<<31) == f.Stream }
func ackedWithBytes(f api.Frame) bool { return flag(f, 1) && len(f.Payload) != 0 }
func notSixes(f api.Frame) bool       { return len(f.Payload)%6 != 0 }
func fewerThan8(f api.Frame) bool     { return len(f.Payload) < 8 }
func addsNothing(f api.Frame) bool    { return word(f.Payload)%(1<<31) == 0 }
func not(n int) func(api.Frame) bool  { return func(f api.Frame) bool { return len(f.Payload) != n } }

// word is the number of the first 4 bytes.
func word(b []byte) int { return int(binary.BigEndian.Uint32(b)) }

// inner is what padding leaves of a payload.
func inner(f api.Frame) []byte {
	if !flag(f, 8) {
		return f.Payload
	}
	return f.Payload[1 : len(f.Payload)-int(f.Payload[0])]
}

// rules are all, the first ones of a kind ahead.
var rules = []rule{
	{api.Data, api.Protocol, false, onNone}, {api.Data, api.FrameSize, false, noPadSize}, {api.Data, api.Protocol, false, tooMuchPadding},
	{api.Headers, api.Protocol, false, onNone}, {api.Headers, api.FrameSize, false, noPadSize}, {api.Headers, api.Protocol, false, tooMuchPadding}, {api.Headers, api.FrameSize, false, lacksPriority}, {api.Headers, api.Protocol, false, headsItself},
	{api.Priority, api.Protocol, false, onNone}, {api.Priority, api.FrameSize, true, not(5)}, {api.Priority, api.Protocol, true, leansOnItself},
	{api.Reset, api.Protocol, false, onNone}, {api.Reset, api.FrameSize, false, not(4)},
	{api.Settings, api.Protocol, false, onSome}, {api.Settings, api.FrameSize, false, ackedWithBytes}, {api.Settings, api.FrameSize, false, notSixes},
	{api.Push, api.Protocol, false, always},
	{api.Ping, api.Protocol, false, onSome}, {api.Ping, api.FrameSize, false, not(8)},
	{api.GoAway, api.Protocol, false, onSome}, {api.GoAway, api.FrameSize, false, fewerThan8},
	{api.Update, api.FrameSize, false, not(4)}, {api.Update, api.Protocol, true, addsNothing},
	{api.Continuation, api.Protocol, false, onNone},
}

// first is the place of the first rule that a frame breaks; -1, if it breaks none.
func first(f api.Frame) int {
	return slices.IndexFunc(rules, func(r rule) bool { return r.kind == f.Kind && r.holds(f) })
}

// told is what a frame without a fault says.
func told(f api.Frame) payload.Parts {
	var p payload.Parts
	switch f.Kind {
	case api.Data:
		p.Bytes, p.End, p.Flow = inner(f), flag(f, 1), len(f.Payload)
	case api.Headers:
		p.Bytes, p.End, p.Whole = inner(f), flag(f, 1), flag(f, 4)
		if flag(f, 32) {
			p.Bytes = p.Bytes[5:]
		}
	case api.Reset:
		p.Code = word(f.Payload)
	case api.Settings:
		p.Acked = flag(f, 1)
		for b := range slices.Chunk(f.Payload, 6) {
			p.Pairs = append(p.Pairs, payload.Pair{ID: int(binary.BigEndian.Uint16(b)), Value: word(b[2:])})
		}
	case api.Ping:
		p.Acked, p.Bytes = flag(f, 1), f.Payload
	case api.GoAway:
		p.Last, p.Code = word(f.Payload)%(1<<31), word(f.Payload[4:])
	case api.Update:
		p.Add = word(f.Payload) % (1 << 31)
	case api.Continuation:
		p.Bytes, p.Whole = f.Payload, flag(f, 4)
	}
	return p
}

// agrees tells whether a frame that may be is answered as it is told again, with
// the place of the rule that it breaks.
func agrees(t *testing.T, f api.Frame) int {
	t.Helper()
	i := first(f)
	switch {
	case i < 0:
		says(t, f, told(f))
	case rules[i].own:
		fails(t, f, rules[i].code, f.Stream)
	default:
		fails(t, f, rules[i].code, 0)
	}
	return i
}

// P11.1: what Data says, and its faults.
func TestData(t *testing.T) {
	says(t, sent(0, 9, 1, 1, 7, 8, 0), payload.Parts{Bytes: []byte{7, 8}, End: true, Flow: 4})
	says(t, sent(0, 0, 1), payload.Parts{})
	says(t, sent(0, 1, 1), payload.Parts{End: true})
	says(t, sent(0, 0, 2, 1, 7, 8, 0), payload.Parts{Bytes: []byte{1, 7, 8, 0}, Flow: 4})
	says(t, sent(0, 1, api.MaxID, 255), payload.Parts{Bytes: []byte{255}, End: true, Flow: 1})
	says(t, sent(0, 8, 1, 0), payload.Parts{Flow: 1})
	says(t, sent(0, 8, 1, 1, 9), payload.Parts{Flow: 2})
	says(t, sent(0, 8, 1, 0, 9), payload.Parts{Bytes: []byte{9}, Flow: 2})
	says(t, sent(0, 8, 1, 2, 5, 6, 7), payload.Parts{Bytes: []byte{5}, Flow: 4})
	says(t, sent(0, 8, 1, 3, 5, 6, 7), payload.Parts{Flow: 4})
	for _, flags := range []int{0, 1, 8, 9, 255} {
		fails(t, sent(0, flags, 0), api.Protocol, 0)
		fails(t, sent(0, flags, 0, 0, 1), api.Protocol, 0)
		fails(t, sent(0, flags, 0, 9, 1), api.Protocol, 0)
	}
	fails(t, sent(0, 8, 5), api.FrameSize, 0)
	fails(t, sent(0, 9, api.MaxID), api.FrameSize, 0)
	fails(t, sent(0, 8, 5, 1), api.Protocol, 0)
	fails(t, sent(0, 8, 5, 4, 5, 6, 7), api.Protocol, 0)
	fails(t, sent(0, 9, 5, 255, 5, 6, 7), api.Protocol, 0)
}

// P11.1: what Headers says, and its faults.
func TestHeaders(t *testing.T) {
	says(t, sent(1, 0, 1, 130), payload.Parts{Bytes: []byte{130}})
	says(t, sent(1, 0, 1), payload.Parts{})
	says(t, sent(1, 1, 1, 130, 131), payload.Parts{Bytes: []byte{130, 131}, End: true})
	says(t, sent(1, 4, 2, 130), payload.Parts{Bytes: []byte{130}, Whole: true})
	says(t, sent(1, 5, api.MaxID, 130), payload.Parts{Bytes: []byte{130}, End: true, Whole: true})
	says(t, sent(1, 8, 1, 0), payload.Parts{})
	says(t, sent(1, 8, 1, 2, 130, 7, 8), payload.Parts{Bytes: []byte{130}})
	says(t, sent(1, 12, 1, 3, 130, 7, 8), payload.Parts{Whole: true})
	says(t, sent(1, 32, 3, 0, 0, 0, 1, 9, 130), payload.Parts{Bytes: []byte{130}})
	says(t, sent(1, 32, 3, 0, 0, 0, 0, 3), payload.Parts{})
	says(t, sent(1, 33, 3, 128, 0, 0, 0, 3), payload.Parts{End: true})
	says(t, sent(1, 32, 3, 0, 0, 1, 3, 0), payload.Parts{})
	says(t, sent(1, 32, 3, 0, 1, 0, 3, 0), payload.Parts{})
	says(t, sent(1, 32, 3, 1, 0, 0, 3, 0), payload.Parts{})
	says(t, sent(1, 40, 3, 1, 0, 0, 0, 1, 3, 130, 0), payload.Parts{Bytes: []byte{130}})
	says(t, sent(1, 45, 3, 1, 0, 0, 0, 4, 3, 0), payload.Parts{End: true, Whole: true})
	// Without padding, what would be the stream is a byte off.
	says(t, sent(1, 40, 3, 0, 0, 0, 3, 0, 0), payload.Parts{})
	for _, flags := range []int{0, 1, 4, 8, 32, 40, 255} {
		fails(t, sent(1, flags, 0), api.Protocol, 0)
		fails(t, sent(1, flags, 0, 0, 0, 0, 0, 0, 0), api.Protocol, 0)
		fails(t, sent(1, flags, 0, 9, 1), api.Protocol, 0)
	}
	fails(t, sent(1, 8, 5), api.FrameSize, 0)
	fails(t, sent(1, 40, 5), api.FrameSize, 0)
	fails(t, sent(1, 8, 5, 1), api.Protocol, 0)
	fails(t, sent(1, 40, 5, 1), api.Protocol, 0)
	fails(t, sent(1, 40, 5, 6, 0, 0, 0, 1, 0), api.Protocol, 0)
	fails(t, sent(1, 40, 5, 255, 0, 0, 0, 5, 0), api.Protocol, 0)
	fails(t, sent(1, 32, 5), api.FrameSize, 0)
	fails(t, sent(1, 32, 5, 0, 0, 0, 1), api.FrameSize, 0)
	fails(t, sent(1, 32, 5, 0, 0, 0, 5), api.FrameSize, 0)
	fails(t, sent(1, 40, 5, 0, 0, 0, 0, 1), api.FrameSize, 0)
	fails(t, sent(1, 40, 5, 0, 0, 0, 0, 5), api.FrameSize, 0)
	fails(t, sent(1, 40, 5, 1, 0, 0, 0, 5, 0), api.FrameSize, 0)
	fails(t, sent(1, 40, 5, 5, 0, 0, 0, 5, 0), api.FrameSize, 0)
	fails(t, sent(1, 32, 5, 0, 0, 0, 5, 0), api.Protocol, 0)
	fails(t, sent(1, 37, 5, 128, 0, 0, 5, 200, 130), api.Protocol, 0)
	fails(t, sent(1, 32, 0x7fffffff, 127, 255, 255, 255, 0), api.Protocol, 0)
	fails(t, sent(1, 32, 0x7fffffff, 255, 255, 255, 255, 0), api.Protocol, 0)
	fails(t, sent(1, 32, 0x01020304, 1, 2, 3, 4, 0), api.Protocol, 0)
	fails(t, sent(1, 40, 5, 2, 0, 0, 0, 5, 0, 7, 7), api.Protocol, 0)
	fails(t, sent(1, 40, 5, 2, 128, 0, 0, 5, 0, 130, 7, 7), api.Protocol, 0)
}

// P11.1: Priority says nothing; its faults, some of its stream.
func TestPriority(t *testing.T) {
	for _, flags := range []int{0, 1, 4, 8, 32, 255} {
		says(t, sent(2, flags, 3, 0, 0, 0, 1, 9), payload.Parts{})
		says(t, sent(2, flags, 3, 0, 0, 0, 0, 3), payload.Parts{})
		says(t, sent(2, flags, 3, 128, 0, 0, 2, 3), payload.Parts{})
		says(t, sent(2, flags, api.MaxID, 127, 255, 255, 254, 3), payload.Parts{})
		says(t, sent(2, flags, 3, 3, 0, 0, 0, 3), payload.Parts{})
		fails(t, sent(2, flags, 0), api.Protocol, 0)
		fails(t, sent(2, flags, 0, 0, 0, 0, 0, 0), api.Protocol, 0)
		fails(t, sent(2, flags, 0, 0, 0, 0, 1, 0), api.Protocol, 0)
		fails(t, sent(2, flags, 3), api.FrameSize, 3)
		fails(t, sent(2, flags, 7, 0, 0, 0, 7), api.FrameSize, 7)
		fails(t, sent(2, flags, 7, 0, 0, 0, 7, 0, 0), api.FrameSize, 7)
		fails(t, sent(2, flags, 8, 0, 0, 0, 1, 0, 0), api.FrameSize, 8)
		fails(t, sent(2, flags, 7, 0, 0, 0, 7, 0), api.Protocol, 7)
		fails(t, sent(2, flags, 7, 128, 0, 0, 7, 255), api.Protocol, 7)
		fails(t, sent(2, flags, api.MaxID, 255, 255, 255, 255, 0), api.Protocol, api.MaxID)
		fails(t, sent(2, flags, 0x01020304, 1, 2, 3, 4, 0), api.Protocol, 0x01020304)
	}
}

// P11.1: what Reset says, and its faults.
func TestReset(t *testing.T) {
	for _, flags := range []int{0, 1, 4, 8, 255} {
		says(t, sent(3, flags, 1, 0, 0, 0, 0), payload.Parts{})
		says(t, sent(3, flags, 1, 0, 0, 0, 8), payload.Parts{Code: 8})
		says(t, sent(3, flags, 2, 1, 2, 3, 4), payload.Parts{Code: 0x01020304})
		says(t, sent(3, flags, api.MaxID, 128, 0, 0, 0), payload.Parts{Code: 1 << 31})
		says(t, sent(3, flags, 1, 255, 255, 255, 255), payload.Parts{Code: 1<<32 - 1})
		fails(t, sent(3, flags, 0), api.Protocol, 0)
		fails(t, sent(3, flags, 0, 0, 0, 0, 8), api.Protocol, 0)
		fails(t, sent(3, flags, 1), api.FrameSize, 0)
		fails(t, sent(3, flags, 1, 0, 0, 0), api.FrameSize, 0)
		fails(t, sent(3, flags, 1, 0, 0, 0, 8, 0), api.FrameSize, 0)
		fails(t, sent(3, flags, 1, 0, 0, 0, 8, 0, 0, 0, 8), api.FrameSize, 0)
	}
}

// P11.1: what Settings says, and its faults.
func TestSettings(t *testing.T) {
	says(t, sent(4, 0, 0), payload.Parts{})
	says(t, sent(4, 1, 0), payload.Parts{Acked: true})
	says(t, sent(4, 0, 0, 0, 4, 0, 0, 1, 2), payload.Parts{Pairs: []payload.Pair{{ID: 4, Value: 258}}})
	says(t, sent(4, 0, 0, 0, 0, 0, 0, 0, 0), payload.Parts{Pairs: []payload.Pair{{}}})
	says(t, sent(4, 0, 0, 1, 2, 3, 4, 5, 6, 255, 255, 255, 255, 255, 255, 1, 2, 0, 0, 0, 0), payload.Parts{Pairs: []payload.Pair{{ID: 258, Value: 0x03040506}, {ID: 65535, Value: 1<<32 - 1}, {ID: 258}}})
	says(t, sent(4, 254, 0, 128, 0, 128, 0, 0, 0), payload.Parts{Pairs: []payload.Pair{{ID: 32768, Value: 1 << 31}}})
	says(t, sent(4, 255, 0), payload.Parts{Acked: true})
	for _, flags := range []int{0, 1, 254, 255} {
		for _, stream := range []int{1, 2, api.MaxID} {
			fails(t, sent(4, flags, stream), api.Protocol, 0)
			fails(t, sent(4, flags, stream, 1), api.Protocol, 0)
			fails(t, sent(4, flags, stream, 0, 4, 0, 0, 1, 2), api.Protocol, 0)
		}
		for n := 1; n < 40; n++ {
			if flags%2 == 1 || n%6 != 0 {
				fails(t, sent(4, flags, 0, make([]byte, n)...), api.FrameSize, 0)
			}
		}
	}
}

// P11.1: Push may not come at all.
func TestPush(t *testing.T) {
	for _, stream := range []int{0, 1, 2, api.MaxID} {
		for _, flags := range []int{0, 4, 8, 12, 255} {
			for n := range 12 {
				fails(t, sent(5, flags, stream, make([]byte, n)...), api.Protocol, 0)
			}
		}
	}
	fails(t, sent(5, 4, 1, 0, 0, 0, 2, 130), api.Protocol, 0)
}

// P11.1: what Ping says, and its faults.
func TestPing(t *testing.T) {
	eight := []byte{1, 2, 3, 4, 5, 6, 7, 255}
	for _, flags := range []int{0, 1, 8, 9, 254, 255} {
		says(t, sent(6, flags, 0, eight...), payload.Parts{Bytes: eight, Acked: flags%2 == 1})
		says(t, sent(6, flags, 0, make([]byte, 8)...), payload.Parts{Bytes: make([]byte, 8), Acked: flags%2 == 1})
		for _, stream := range []int{1, 2, api.MaxID} {
			fails(t, sent(6, flags, stream), api.Protocol, 0)
			fails(t, sent(6, flags, stream, eight...), api.Protocol, 0)
		}
		for n := range 20 {
			if n != 8 {
				fails(t, sent(6, flags, 0, make([]byte, n)...), api.FrameSize, 0)
			}
		}
	}
}

// P11.1: what GoAway says, and its faults.
func TestGoAway(t *testing.T) {
	for _, flags := range []int{0, 1, 4, 8, 255} {
		says(t, sent(7, flags, 0, 0, 0, 0, 7, 0, 0, 1, 1), payload.Parts{Last: 7, Code: 257})
		says(t, sent(7, flags, 0, 128, 0, 0, 7, 0, 0, 1, 1, 9), payload.Parts{Last: 7, Code: 257})
		says(t, sent(7, flags, 0, 255, 255, 255, 255, 255, 255, 255, 255), payload.Parts{Last: api.MaxID, Code: 1<<32 - 1})
		says(t, sent(7, flags, 0, 1, 2, 3, 4, 128, 0, 0, 0, 5, 6, 7, 8, 9), payload.Parts{Last: 0x01020304, Code: 1 << 31})
		says(t, sent(7, flags, 0, make([]byte, 8)...), payload.Parts{})
		says(t, sent(7, flags, 0, make([]byte, 16384)...), payload.Parts{})
		for _, stream := range []int{1, 2, api.MaxID} {
			fails(t, sent(7, flags, stream), api.Protocol, 0)
			fails(t, sent(7, flags, stream, make([]byte, 8)...), api.Protocol, 0)
		}
		for n := range 8 {
			fails(t, sent(7, flags, 0, make([]byte, n)...), api.FrameSize, 0)
		}
	}
}

// P11.1: what Update says, and its faults, some of its stream.
func TestUpdate(t *testing.T) {
	for _, flags := range []int{0, 1, 8, 255} {
		for _, stream := range []int{0, 1, 2, 5, api.MaxID} {
			says(t, sent(8, flags, stream, 0, 0, 0, 1), payload.Parts{Add: 1})
			says(t, sent(8, flags, stream, 128, 0, 1, 0), payload.Parts{Add: 256})
			says(t, sent(8, flags, stream, 1, 2, 3, 4), payload.Parts{Add: 0x01020304})
			says(t, sent(8, flags, stream, 127, 255, 255, 255), payload.Parts{Add: api.MaxWindow})
			says(t, sent(8, flags, stream, 255, 255, 255, 255), payload.Parts{Add: api.MaxWindow})
			fails(t, sent(8, flags, stream, 0, 0, 0, 0), api.Protocol, stream)
			fails(t, sent(8, flags, stream, 128, 0, 0, 0), api.Protocol, stream)
			for n := range 12 {
				if n != 4 {
					fails(t, sent(8, flags, stream, make([]byte, n)...), api.FrameSize, 0)
				}
			}
			fails(t, sent(8, flags, stream, 0, 0, 0, 1, 0), api.FrameSize, 0)
		}
	}
}

// P11.1: what Continuation says, and its fault: it is neither padded nor the end.
func TestContinuation(t *testing.T) {
	says(t, sent(9, 0, 1), payload.Parts{})
	says(t, sent(9, 4, 1), payload.Parts{Whole: true})
	says(t, sent(9, 0, 2, 3), payload.Parts{Bytes: []byte{3}})
	says(t, sent(9, 5, api.MaxID, 3), payload.Parts{Bytes: []byte{3}, Whole: true})
	says(t, sent(9, 255, 3, 0, 0, 0, 3, 0), payload.Parts{Bytes: []byte{0, 0, 0, 3, 0}, Whole: true})
	says(t, sent(9, 251, 3, 9), payload.Parts{Bytes: []byte{9}})
	for _, flags := range []int{0, 4, 255} {
		fails(t, sent(9, flags, 0), api.Protocol, 0)
		fails(t, sent(9, flags, 0, 3), api.Protocol, 0)
	}
}

// P11.1: frames of other kinds say nothing, and have no faults.
func TestOthers(t *testing.T) {
	for kind := api.Kind(10); kind <= 255; kind++ {
		for _, flags := range []int{0, 1, 4, 8, 32, 45, 255} {
			for _, stream := range []int{0, 1, 2, api.MaxID} {
				for _, n := range []int{0, 1, 4, 5, 6, 8, 9, 20} {
					says(t, sent(kind, flags, stream, bytes.Repeat([]byte{200}, n)...), payload.Parts{})
				}
			}
		}
	}
}

// P11.1: a frame that may not be has a fault of its own, ahead of all others.
func TestMayNotBe(t *testing.T) {
	far := []int{-1, -2, -256, 256, 257, 512, 1 << 16, 1 << 32, 1<<32 + 1, 1 << 62, math.MaxInt, math.MinInt}
	for _, n := range far {
		for _, stream := range []int{0, 1} {
			fails(t, sent(api.Kind(n), 0, stream), api.Internal, 0)
			fails(t, sent(api.Kind(n), 0, stream, make([]byte, 8)...), api.Internal, 0)
			for kind := range api.Kind(12) {
				fails(t, sent(kind, n, stream), api.Internal, 0)
				fails(t, sent(kind, n, stream, make([]byte, 8)...), api.Internal, 0)
			}
		}
	}
	for _, stream := range []int{-1, -2, 1 << 31, 1<<31 + 1, 1 << 32, 1<<32 + 1, math.MaxInt, math.MinInt} {
		for kind := range api.Kind(12) {
			for _, flags := range []int{0, 1, 8, 32, 255} {
				fails(t, sent(kind, flags, stream), api.Internal, 0)
				fails(t, sent(kind, flags, stream, make([]byte, 5)...), api.Internal, 0)
				fails(t, sent(kind, flags, stream, make([]byte, 8)...), api.Internal, 0)
			}
		}
	}
	long := make([]byte, api.MaxFrame+1)
	for _, kind := range []api.Kind{0, 1, 2, 3, 4, 5, 6, 7, 8, 9, 10, 255} {
		for _, stream := range []int{0, 1} {
			fails(t, sent(kind, 0, stream, long...), api.Internal, 0)
			fails(t, sent(kind, 255, stream, long...), api.Internal, 0)
		}
	}
}

// P11.1: the greatest frames that may be.
func TestGreatest(t *testing.T) {
	long := bytes.Repeat([]byte{1, 2, 3, 4, 5, 6, 7}, api.MaxFrame/7+1)[:api.MaxFrame]
	says(t, sent(0, 0, 1, long...), payload.Parts{Bytes: long, Flow: api.MaxFrame})
	says(t, sent(0, 8, 1, long...), payload.Parts{Bytes: long[1 : len(long)-1], Flow: api.MaxFrame})
	says(t, sent(1, 0, 1, long...), payload.Parts{Bytes: long})
	says(t, sent(1, 40, 1, long...), payload.Parts{Bytes: long[6 : len(long)-1]})
	says(t, sent(9, 0, 1, long...), payload.Parts{Bytes: long})
	says(t, sent(7, 0, 0, long...), payload.Parts{Last: 0x01020304, Code: 0x05060701})
	says(t, sent(255, 255, 1, long...), payload.Parts{})
	fails(t, sent(2, 0, 1, long...), api.FrameSize, 1)
	fails(t, sent(4, 0, 0, long...), api.FrameSize, 0)
	fails(t, sent(5, 0, 0, long...), api.Protocol, 0)
	// As many pairs as there may be: they don't take time by their square.
	most := sent(4, 0, 0, long[:api.MaxFrame/6*6]...)
	p, _, ok := payload.Read(most)
	if !ok || len(p.Pairs) != api.MaxFrame/6 || !alike(p, told(most)) {
		t.Errorf("%s: %d pairs, %t", text(most), len(p.Pairs), ok)
	}
}

// P11.1: flags that aren't named are not looked at; of those that are, each counts
// for itself.
func TestFlags(t *testing.T) {
	named := map[api.Kind]int{0: 9, 1: 45, 4: 1, 6: 1, 9: 4}
	for kind := range api.Kind(14) {
		for _, b := range [][]byte{nil, {0}, {1}, {0, 0, 0, 1}, {0, 0, 0, 3, 0}, {1, 0, 0, 1, 0, 0}, {1, 0, 0, 0, 3, 9, 0}, {0, 0, 0, 0, 1, 0, 0, 9}, make([]byte, 12)} {
			for _, stream := range []int{0, 3} {
				for flags := range 256 {
					f := sent(kind, flags, stream, b...)
					agrees(t, f)
					p, fault, ok := payload.Read(f)
					f.Flags &= named[kind]
					q, other, also := payload.Read(f)
					if !alike(p, q) || fault != other || ok != also {
						t.Errorf("%s: %v with the flags %d", text(f), p, flags)
					}
				}
			}
		}
	}
}

// P11.1: each rule is broken by some frame whose later ones would be broken, too, and
// it is the first one that is told.
func TestFirstFault(t *testing.T) {
	for _, x := range []struct {
		f    api.Frame
		code api.Code
	}{
		{sent(0, 8, 0), api.Protocol}, {sent(0, 8, 0, 9), api.Protocol},
		{sent(1, 8, 0), api.Protocol}, {sent(1, 40, 0, 9), api.Protocol}, {sent(1, 32, 0, 0), api.Protocol},
		{sent(1, 40, 3), api.FrameSize}, {sent(1, 40, 3, 9, 0), api.Protocol}, {sent(1, 40, 3, 2, 0, 0), api.FrameSize}, {sent(1, 32, 3, 0, 0, 0, 3), api.FrameSize},
		{sent(2, 0, 0, 0, 0, 0, 0), api.Protocol}, {sent(2, 0, 0, 0, 0, 0, 0, 0), api.Protocol}, {sent(3, 0, 0, 1), api.Protocol},
		{sent(4, 1, 1, 1), api.Protocol}, {sent(4, 0, 1, 1), api.Protocol}, {sent(6, 0, 1, 1), api.Protocol}, {sent(7, 0, 1, 1), api.Protocol}, {sent(8, 0, 0, 0, 0, 0, 0, 0), api.FrameSize},
	} {
		fails(t, x.f, x.code, 0)
	}
	fails(t, sent(2, 0, 3, 0, 0, 0, 3), api.FrameSize, 3)
	fails(t, sent(2, 0, 3, 0, 0, 0, 3, 0, 0), api.FrameSize, 3)
	fails(t, sent(8, 0, 3, 0, 0, 0, 0, 0), api.FrameSize, 0)
}

// padded is a frame with padding: so many bytes, whatever they are.
func padded(f api.Frame, padding []byte) api.Frame {
	f.Flags |= 8
	f.Payload = slices.Concat([]byte{byte(len(padding))}, f.Payload, padding)
	return f
}

// P11.2: Data, and Headers, padded, say the same, but for Flow.
func TestPadding(t *testing.T) {
	r := rand.New(rand.NewSource(21))
	for _, f := range []api.Frame{
		sent(0, 0, 1), sent(0, 1, 1), sent(0, 0, 3, 7, 8, 9), sent(0, 1, 3, 0), sent(0, 0, 3, make([]byte, 300)...),
		sent(1, 0, 1), sent(1, 5, 1, 130), sent(1, 1, 3, 130, 131), sent(1, 4, 3, make([]byte, 300)...),
		sent(1, 32, 3, 0, 0, 0, 0, 0), sent(1, 36, 3, 0, 0, 0, 1, 9, 130), sent(1, 37, 3, 128, 0, 0, 4, 255, 130, 131),
	} {
		plain, _, ok := payload.Read(f)
		if !ok || !alike(plain, told(f)) {
			t.Errorf("%s: %v %t", text(f), plain, ok)
		}
		for n := range 256 {
			padding := make([]byte, n)
			for range 2 {
				g, want := padded(f, padding), plain
				if f.Kind == api.Data {
					want.Flow += 1 + n
				}
				says(t, g, want)
				r.Read(padding)
			}
			// A byte less than the padding asks for.
			g := padded(f, padding)
			g.Payload = g.Payload[:min(n, len(g.Payload))]
			if n > 0 {
				fails(t, g, api.Protocol, 0)
			}
		}
	}
	// What is wrong stays so.
	for n := range 256 {
		padding := make([]byte, n)
		fails(t, padded(sent(0, 0, 0, 7), padding), api.Protocol, 0)
		fails(t, padded(sent(1, 0, 0, 7), padding), api.Protocol, 0)
		fails(t, padded(sent(1, 32, 3, 0, 0, 0, 3), padding), api.FrameSize, 0)
		fails(t, padded(sent(1, 32, 3, 0, 0, 0, 3, 0), padding), api.Protocol, 0)
	}
}

// someFrame is any that may be, mostly near to one without a fault.
func someFrame(r *rand.Rand) api.Frame {
	streams := []int{0, 0, 1, 2, 3, 5, 258, api.MaxID}
	f := sent(api.Kind(r.Intn(11)), r.Intn(256), streams[r.Intn(len(streams))])
	if r.Intn(2) == 0 {
		f.Flags &= 7
	}
	sizes := []int{0, 1, 4, 4, 5, 5, 6, 8, 8, 12, r.Intn(40)}
	f.Payload = make([]byte, sizes[r.Intn(len(sizes))])
	if r.Intn(4) > 0 {
		r.Read(f.Payload)
	}
	if len(f.Payload) > 0 && r.Intn(2) == 0 {
		f.Payload[0] = byte(r.Intn(10))
	}
	if at := r.Intn(2); len(f.Payload) >= at+4 && r.Intn(3) == 0 {
		binary.BigEndian.PutUint32(f.Payload[at:], uint32(f.Stream)|uint32(r.Intn(2))<<31)
	}
	return f
}

// P11.1: any frames, told again in other words.
func TestModel(t *testing.T) {
	r := rand.New(rand.NewSource(22))
	broken := make([]int, len(rules))
	fine := map[api.Kind]int{}
	for range 300000 {
		f := someFrame(r)
		if i := agrees(t, f); i >= 0 {
			broken[i]++
		} else {
			fine[f.Kind]++
		}
	}
	for i, n := range broken {
		if n < 100 {
			t.Errorf("rule %d: %d frames", i, n)
		}
	}
	for kind := range api.Kind(11) {
		if n := fine[kind]; n < 100 && kind != api.Push {
			t.Errorf("kind %d: %d frames", kind, n)
		}
	}
}

// P1: whatever there is, each call ends.
func TestAnything(t *testing.T) {
	r := rand.New(rand.NewSource(23))
	numbers := []int{0, 1, 3, 8, 32, 255, 256, -1, api.MaxID, api.MaxID + 1, math.MaxInt, math.MinInt}
	some := func() int { return numbers[r.Intn(len(numbers))] }
	for range 100000 {
		f := someFrame(r)
		if r.Intn(4) == 0 {
			f.Kind = api.Kind(some())
		}
		if r.Intn(4) == 0 {
			f.Flags = some()
		}
		if r.Intn(4) == 0 {
			f.Stream = some()
		}
		// Which frames may be is told by layer 2, and by this one again.
		if frame.Right(f) {
			agrees(t, f)
		} else {
			fails(t, f, api.Internal, 0)
		}
	}
	// No bytes may be nil or not.
	for kind := range api.Kind(256) {
		for flags := range 256 {
			agrees(t, api.Frame{Kind: kind, Flags: flags})
			agrees(t, api.Frame{Kind: kind, Flags: flags, Stream: 1, Payload: []byte{}})
		}
	}
}

// P2: what was read ahead makes no difference.
func TestAgain(t *testing.T) {
	r := rand.New(rand.NewSource(24))
	var frames []api.Frame
	var said []payload.Parts
	for range 3000 {
		f := someFrame(r)
		p, _, _ := payload.Read(f)
		frames, said = append(frames, f), append(said, p)
	}
	for range 9000 {
		i := r.Intn(len(frames))
		agrees(t, frames[i])
		if p, _, _ := payload.Read(frames[i]); !alike(p, said[i]) {
			t.Errorf("%s: %v, but %v ahead", text(frames[i]), p, said[i])
		}
	}
}

// P2: what is handed in is not written into, what lies behind its length is neither
// read nor written, and what is answered shares no memory with it.
func TestMemory(t *testing.T) {
	r := rand.New(rand.NewSource(25))
	fill := func(b []byte, c byte) {
		for i := range b {
			b[i] = c
		}
	}
	for range 20000 {
		f := someFrame(r)
		for _, behind := range []byte{0, 1, 255} {
			memory := append(slices.Clone(f.Payload), bytes.Repeat([]byte{behind}, 12)...)
			before := slices.Clone(memory)
			g := f
			g.Payload = memory[:len(f.Payload)]
			agrees(t, g)
			p, _, _ := payload.Read(g)
			again, _, _ := payload.Read(g)
			kept := slices.Clone(p.Bytes)
			fill(p.Bytes[:cap(p.Bytes)], 99)
			if !bytes.Equal(memory, before) {
				t.Errorf("%s: its memory is %v, not %v", text(f), memory, before)
			}
			if !bytes.Equal(again.Bytes, kept) {
				t.Errorf("%s: two answers share memory", text(f))
			}
			fill(memory, 98)
			if !bytes.Equal(again.Bytes, kept) {
				t.Errorf("%s: the answer was kept in its memory", text(f))
			}
		}
	}
	// Pairs are new in each answer, too.
	f := sent(4, 0, 0, 0, 4, 0, 0, 1, 2, 0, 5, 0, 0, 64, 0)
	p, _, _ := payload.Read(f)
	for i := range p.Pairs {
		p.Pairs[i] = payload.Pair{}
	}
	says(t, f, payload.Parts{Pairs: []payload.Pair{{ID: 4, Value: 258}, {ID: 5, Value: 16384}}})
}
