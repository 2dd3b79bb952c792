// Package word is numbers in bytes, the lowest first.
package word

import (
	"reliquary/api"
)

// widest is how many bytes the greatest number has.
const widest = 8

// longest is how many bytes Pad answers at most: asking for more could not be met, and would end in a panic.
const longest = 1 << 31

// Put is a number in so many bytes.
func Put(x uint64, n int) []byte {
	if !fits(n) {
		return nil
	}
	out := make([]byte, n)
	lay(out, x)
	return out
}

// Get is the number of so many bytes from a place on.
func Get(b []byte, at, n int) (uint64, api.Errno) {
	if e := check(b, at, n); e != api.OK {
		return 0, e
	}
	x := uint64(0)
	for i := range n {
		x |= uint64(b[at+i]) << (8 * i)
	}
	return x, api.OK
}

// Set lays a number over bytes from a place on.
func Set(b []byte, at, n int, x uint64) ([]byte, api.Errno) {
	if e := check(b, at, n); e != api.OK {
		return nil, e
	}
	out := make([]byte, len(b))
	copy(out, b)
	lay(out[at:at+n], x)
	return out, api.OK
}

// Pad is bytes with noughts behind, or cut.
func Pad(b []byte, n int) []byte {
	if n < 1 || uint64(n) > longest {
		return nil
	}
	out := make([]byte, n)
	copy(out, b)
	return out
}

// Add is the sum of numbers; false: it goes over.
func Add(l ...uint64) (uint64, bool) {
	sum := uint64(0)
	for _, x := range l {
		sum += x
		// A sum that wrapped round is below each of its two parts.
		if sum < x {
			return 0, false
		}
	}
	return sum, true
}

// fits tells whether a number may have so many bytes.
func fits(n int) bool { return n >= 1 && n <= widest }

// check is the error of so many bytes from a place on.
func check(b []byte, at, n int) api.Errno {
	if !fits(n) {
		return api.ErrArg
	}
	// Taken from the length, since the place and n together may go over.
	if at < 0 || at > len(b)-n {
		return api.ErrRange
	}
	return api.OK
}

// lay fills bytes with a number's lowest ones.
func lay(out []byte, x uint64) {
	for i := range len(out) {
		out[i] = byte(x >> (8 * i))
	}
}
