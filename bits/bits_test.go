package bits_test

import (
	"math"
	"strings"
	"testing"

	"deckle/api"
	"deckle/bits"
)

// Widths and places that no call may take, the greatest ones too.
var wrong = []int{math.MinInt, -1 << 32, -64, -1, 1 << 16, 1 << 32, 1<<32 + 1, math.MaxInt}

// Numbers whose bits differ at either end of a byte, a width, or the whole.
func samples() []uint64 {
	l := []uint64{0, 5, 258, 0x0123456789abcdef, 0xfedcba9876543210, math.MaxUint64}
	for k := range 64 {
		p := uint64(1) << k
		l = append(l, p, p-1, p+1, ^p)
	}
	return l
}

// Promise 1.1.
func TestPut(t *testing.T) {
	for _, c := range []struct {
		v uint64
		n int
		s string
		e api.Code
	}{
		{258, 2, "\x02\x01", api.OK},
		{258, 4, "\x02\x01\x00\x00", api.OK},
		{0, 1, "\x00", api.OK},
		{255, 1, "\xff", api.OK},
		{256, 1, "", api.ErrRange},
		{0x0807060504030201, 8, "\x01\x02\x03\x04\x05\x06\x07\x08", api.OK},
		{0x0807060504030201, 7, "", api.ErrRange},
		{1<<56 - 1, 7, "\xff\xff\xff\xff\xff\xff\xff", api.OK},
		{1 << 56, 7, "", api.ErrRange},
		{math.MaxUint64, 8, strings.Repeat("\xff", 8), api.OK},
		{0, 8, strings.Repeat("\x00", 8), api.OK},
		{0, 0, "", api.ErrRange},
		{0, 9, "", api.ErrRange},
		{math.MaxUint64, 9, "", api.ErrRange},
	} {
		if s, e := bits.Put(c.v, c.n); s != c.s || e != c.e {
			t.Errorf("Put(%d, %d): %q %d, not %q %d", c.v, c.n, s, int(e), c.s, int(c.e))
		}
	}
	for _, n := range wrong {
		if s, e := bits.Put(1, n); s != "" || e != api.ErrRange {
			t.Errorf("Put(1, %d): %q %d", n, s, int(e))
		}
	}
}

// Promise 1.1: at each width the greatest number has room, and one more has not.
func TestPutRoom(t *testing.T) {
	for n := 1; n < 8; n++ {
		over := uint64(1) << (8 * n)
		if s, e := bits.Put(over-1, n); s != strings.Repeat("\xff", n) || e != api.OK {
			t.Errorf("Put(%d, %d): %q %d", over-1, n, s, int(e))
		}
		if s, e := bits.Put(over, n); s != "" || e != api.ErrRange {
			t.Errorf("Put(%d, %d): %q %d", over, n, s, int(e))
		}
	}
}

// Promise 1.1.
func TestGet(t *testing.T) {
	for _, c := range []struct {
		s string
		v uint64
		e api.Code
	}{
		{"\x02\x01", 258, api.OK},
		{"\x00", 0, api.OK},
		{"\xff", 255, api.OK},
		{"\x00\x00\x01", 1 << 16, api.OK},
		{"\x05\x00\x00", 5, api.OK},
		{"\x01\x02\x03\x04\x05\x06\x07\x08", 0x0807060504030201, api.OK},
		{strings.Repeat("\xff", 8), math.MaxUint64, api.OK},
		{"", 0, api.ErrRange},
		{strings.Repeat("\x00", 9), 0, api.ErrRange},
		{"\x01\x02\x03\x04\x05\x06\x07\x08\x00", 0, api.ErrRange},
		{strings.Repeat("\xff", 1000), 0, api.ErrRange},
	} {
		if v, e := bits.Get(c.s); v != c.v || e != c.e {
			t.Errorf("Get(%q): %d %d, not %d %d", c.s, v, int(e), c.v, int(c.e))
		}
	}
}

// Promise 1.2.
func TestSign(t *testing.T) {
	for _, c := range []struct {
		v uint64
		n int
		s int64
	}{
		{7, 3, -1},
		{3, 3, 3},
		{4, 3, -4},
		{0, 1, 0},
		{1, 1, -1},
		{0xff00, 8, 0},
		{0xff7f, 8, 127},
		{0xff80, 8, -128},
		{1<<63 - 1, 63, -1},
		{1<<62 - 1, 63, 1<<62 - 1},
		{1 << 63, 63, 0},
		{1 << 63, 64, math.MinInt64},
		{1<<63 - 1, 64, math.MaxInt64},
		{math.MaxUint64, 64, -1},
	} {
		if s, e := bits.Sign(c.v, c.n); s != c.s || e != api.OK {
			t.Errorf("Sign(%x, %d): %d %d, not %d", c.v, c.n, s, int(e), c.s)
		}
	}
	for _, n := range append([]int{0, 65}, wrong...) {
		if s, e := bits.Sign(math.MaxUint64, n); s != 0 || e != api.ErrRange {
			t.Errorf("Sign of %d bits: %d %d", n, s, int(e))
		}
	}
}

// Promise 1.2.
func TestNarrow(t *testing.T) {
	for _, c := range []struct {
		v  int64
		n  int
		u  uint64
		ok bool
	}{
		{-1, 3, 7, true},
		{3, 3, 3, true},
		{4, 3, 0, false},
		{-4, 3, 4, true},
		{-5, 3, 0, false},
		{0, 1, 0, true},
		{-1, 1, 1, true},
		{1, 1, 0, false},
		{-2, 1, 0, false},
		{-1, 64, math.MaxUint64, true},
		{math.MinInt64, 64, 1 << 63, true},
		{math.MaxInt64, 64, 1<<63 - 1, true},
		{math.MinInt64, 63, 0, false},
		{math.MaxInt64, 63, 0, false},
	} {
		if u, ok := bits.Narrow(c.v, c.n); u != c.u || ok != c.ok {
			t.Errorf("Narrow(%d, %d): %x %t, not %x %t", c.v, c.n, u, ok, c.u, c.ok)
		}
	}
	for _, n := range append([]int{0, 65}, wrong...) {
		for _, v := range []int64{0, -1, 5} {
			if u, ok := bits.Narrow(v, n); u != 0 || ok {
				t.Errorf("Narrow(%d, %d): %x %t", v, n, u, ok)
			}
		}
	}
}

// Promise 1.2: at each width the least and the greatest number have room, and those beyond have not.
func TestNarrowRoom(t *testing.T) {
	for n := 1; n < 64; n++ {
		half := int64(1) << (n - 1)
		for _, c := range []struct {
			v  int64
			u  uint64
			ok bool
		}{
			{half - 1, uint64(half - 1), true},
			{-half, uint64(half), true},
			{half, 0, false},
			{-half - 1, 0, false},
		} {
			if u, ok := bits.Narrow(c.v, n); u != c.u || ok != c.ok {
				t.Errorf("Narrow(%d, %d): %x %t, not %x %t", c.v, n, u, ok, c.u, c.ok)
			}
		}
	}
}

// Promise 1.2.
func TestTurn(t *testing.T) {
	const v = 0x0123456789abcdef
	for _, c := range []struct {
		v uint64
		k int
		u uint64
	}{
		{1, -1, 1 << 63},
		{1 << 63, 1, 1},
		{1, 63, 1 << 63},
		{5, 0, 5},
		{5, 64, 5},
		{5, -64, 5},
		{5, -128, 5},
		{1, 65, 2},
		{1, -65, 1 << 63},
		{v, 4, 0x123456789abcdef0},
		{v, -4, 0xf0123456789abcde},
		{v, 32, 0x89abcdef01234567},
		{1, math.MaxInt, 1 << 63},
		{1, math.MinInt, 1},
		{1, math.MinInt + 1, 2},
		{0, 17, 0},
		{math.MaxUint64, 17, math.MaxUint64},
	} {
		if u := bits.Turn(c.v, c.k); u != c.u {
			t.Errorf("Turn(%x, %d): %x, not %x", c.v, c.k, u, c.u)
		}
	}
}

// Promise 1.3.
func TestZeros(t *testing.T) {
	for _, c := range []struct {
		s string
		n int
	}{
		{"", 0},
		{"\x00", 8},
		{"\xff", 0},
		{"\x00\xfe", 9},
		{"\x7f", 1},
		{"\x80", 7},
		{"a", 5},
		{strings.Repeat("\x0f", 300), 1200},
		{"\xc3\xa4\xe2\x82", 19},
	} {
		if n := bits.Zeros(c.s); n != c.n {
			t.Errorf("Zeros(%q): %d, not %d", c.s, n, c.n)
		}
	}
}

// Promise 1.3.
func TestFlip(t *testing.T) {
	for _, c := range []struct {
		s string
		k int
		r string
		e api.Code
	}{
		{"ab", 9, "a`", api.OK},
		{"ab", 0, "`b", api.OK},
		{"ab", 7, "\xe1b", api.OK},
		{"ab", 8, "ac", api.OK},
		{"ab", 15, "a\xe2", api.OK},
		{"\xff\xfe", 8, "\xff\xff", api.OK},
		{"\xff\xfe", 5, "\xdf\xfe", api.OK},
		{"ab", 16, "", api.ErrRange},
		{"ab", -1, "", api.ErrRange},
		{"ab", -8, "", api.ErrRange},
		{"", 0, "", api.ErrRange},
		{"", -1, "", api.ErrRange},
	} {
		if r, e := bits.Flip(c.s, c.k); r != c.r || e != c.e {
			t.Errorf("Flip(%q, %d): %q %d, not %q %d", c.s, c.k, r, int(e), c.r, int(c.e))
		}
	}
	for _, k := range wrong {
		if r, e := bits.Flip("ab", k); r != "" || e != api.ErrRange {
			t.Errorf("Flip(ab, %d): %q %d", k, r, int(e))
		}
	}
}

// Promise 1.4: what is put is got.
func TestPutIsGot(t *testing.T) {
	for _, v := range samples() {
		for n := 1; n <= 8; n++ {
			s, e := bits.Put(v, n)
			if fits := n == 8 || v < 1<<(8*n); fits != (e == api.OK) {
				t.Errorf("Put(%x, %d): %d", v, n, int(e))
			}
			if e != api.OK {
				continue
			}
			if got, e := bits.Get(s); len(s) != n || got != v || e != api.OK {
				t.Errorf("%x in %d bytes: %q, got %x %d", v, n, s, got, int(e))
			}
		}
	}
}

// Promise 1.4: bytes that are got are put.
func TestGotIsPut(t *testing.T) {
	const all = "\x00\x7f\x80\xff\x01\x00\xfe\x00"
	for n := 1; n <= len(all); n++ {
		v, _ := bits.Get(all[:n])
		if s, e := bits.Put(v, n); s != all[:n] || e != api.OK {
			t.Errorf("%q: got %x, put %q %d", all[:n], v, s, int(e))
		}
	}
}

// Promise 1.4: what is narrowed has its sign again, and what has a sign is narrowed to its lowest bits.
func TestNarrowedHasItsSign(t *testing.T) {
	for _, v := range samples() {
		for n := 1; n <= 64; n++ {
			if u, ok := bits.Narrow(int64(v), n); ok {
				if s, e := bits.Sign(u, n); s != int64(v) || e != api.OK {
					t.Errorf("%d in %d bits: %x, of the sign %d", int64(v), n, u, s)
				}
			}
			low := v
			if n < 64 {
				low = v % (1 << n)
			}
			s, _ := bits.Sign(v, n)
			if u, ok := bits.Narrow(s, n); u != low || !ok {
				t.Errorf("%x of %d bits: %d, narrowed %x %t", v, n, s, u, ok)
			}
		}
	}
}

// Promise 1.4: bits flipped twice are as they were, and flipped once just one differs.
func TestFlippedTwice(t *testing.T) {
	const s = "\x00\xffdeckle\xc3\xa4"
	for k := range 8 * len(s) {
		once, e := bits.Flip(s, k)
		if e != api.OK || len(once) != len(s) || once == s {
			t.Errorf("bit %d: %q %d", k, once, int(e))
			continue
		}
		step := bits.Zeros(once) - bits.Zeros(s)
		if want := int(s[k/8])>>(k%8)&1*2 - 1; step != want {
			t.Errorf("bit %d: %d noughts more, not %d", k, step, want)
		}
		if twice, e := bits.Flip(once, k); twice != s || e != api.OK {
			t.Errorf("bit %d twice: %q %d", k, twice, int(e))
		}
	}
}

// Promise 1.4: turns add up.
func TestTurnsAddUp(t *testing.T) {
	for _, v := range samples() {
		for j := -130; j <= 130; j += 13 {
			for k := -130; k <= 130; k += 7 {
				if a, b := bits.Turn(bits.Turn(v, j), k), bits.Turn(v, j+k); a != b {
					t.Fatalf("%x turned by %d and %d: %x, at once %x", v, j, k, a, b)
				}
			}
		}
		if u := bits.Turn(bits.Turn(v, math.MaxInt), -math.MaxInt); u != v {
			t.Errorf("%x turned there and back: %x", v, u)
		}
	}
}
