// Package bits is layer 1: numbers as bytes, the lowest first, and single bits of bytes.
package bits

import (
	"math/bits"

	"deckle/api"
)

const (
	byteBits = 8
	wordBits = 64
	maxBytes = wordBits / byteBits
)

// Put answers the n bytes of v.
func Put(v uint64, n int) (string, api.Code) {
	// A shift by all 64 bits leaves 0, so eight bytes have room for any v.
	if n < 1 || n > maxBytes || v>>(byteBits*n) != 0 {
		return "", api.ErrRange
	}
	var b [maxBytes]byte
	for i := range n {
		b[i] = byte(v >> (byteBits * i))
	}
	return string(b[:n]), api.OK
}

// Get answers the number whose bytes s is.
func Get(s string) (uint64, api.Code) {
	if len(s) < 1 || len(s) > maxBytes {
		return 0, api.ErrRange
	}
	var v uint64
	for i := range len(s) {
		v |= uint64(s[i]) << (byteBits * i)
	}
	return v, api.OK
}

// Sign answers what the lowest n bits of v say, the highest of them counting below 0.
func Sign(v uint64, n int) (int64, api.Code) {
	if !isWidth(n) {
		return 0, api.ErrRange
	}
	// Shifted back as a number with a sign, the n-th bit fills all those above it.
	above := wordBits - n
	return int64(v<<above) >> above, api.OK
}

// Narrow answers the n bits of which Sign is v, and whether there are any.
func Narrow(v int64, n int) (uint64, bool) {
	if !isWidth(n) {
		return 0, false
	}
	above := wordBits - n
	u := uint64(v) << above >> above
	if back, _ := Sign(u, n); back != v {
		return 0, false
	}
	return u, true
}

// Turn answers v with each bit k places higher, those beyond the end at the low end again.
func Turn(v uint64, k int) uint64 {
	// Without its sign a k below 0 is greater by a multiple of 64, and has the same rest.
	up := uint(k) % wordBits
	return v<<up | v>>(wordBits-up)
}

// Zeros answers how many bits of s are 0.
func Zeros(s string) int {
	n := 0
	for i := range len(s) {
		n += bits.OnesCount8(^s[i])
	}
	return n
}

// Flip answers s with its bit k the other way.
func Flip(s string, k int) (string, api.Code) {
	// k is divided, as the length of s times eight might have no room.
	if k < 0 || k/byteBits >= len(s) {
		return "", api.ErrRange
	}
	b := []byte(s)
	b[k/byteBits] ^= 1 << (k % byteBits)
	return string(b), api.OK
}

func isWidth(n int) bool { return n >= 1 && n <= wordBits }
