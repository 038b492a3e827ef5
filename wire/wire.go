// Package wire is layer 1: see shared/doc/01-wire.md.
package wire

import "gantlet/api"

// maxSize is the greatest size that a number's bytes have.
const maxSize = 4

// isSize tells whether there is such a size.
func isSize(size int) bool { return 1 <= size && size <= maxSize }

// fits tells whether a number has bytes of a size that there is.
func fits(n, size int) bool { return n >= 0 && n>>(8*size) == 0 }

// number is that of bytes that are at most maxSize.
func number(b []byte) int {
	n := 0
	for i := range len(b) {
		n = n<<8 | int(b[i])
	}
	return n
}

// Put is a number's bytes.
func Put(n, size int) ([]byte, api.Errno) {
	if !isSize(size) || !fits(n, size) {
		return nil, api.ErrArg
	}
	b := make([]byte, size)
	for i := range size {
		b[size-1-i] = byte(n >> (8 * i))
	}
	return b, api.OK
}

// Get is the number of bytes.
func Get(b []byte) (int, api.Errno) {
	if !isSize(len(b)) {
		return 0, api.ErrArg
	}
	return number(b), api.OK
}

// Cut is the number of the first bytes, and what is behind them.
func Cut(b []byte, size int) (int, []byte, api.Errno) {
	if !isSize(size) {
		return 0, nil, api.ErrArg
	}
	if len(b) < size {
		return 0, nil, api.ErrMore
	}
	// A copy of just that length: what is answered shares no memory with b.
	rest := make([]byte, len(b)-size)
	copy(rest, b[size:])
	return number(b[:size]), rest, api.OK
}
