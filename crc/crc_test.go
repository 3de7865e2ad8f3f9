package crc_test

import (
	"hash/crc32"
	"math"
	"strings"
	"testing"

	"deckle/crc"
)

// The powers of the polynomial below x^32.
var powers = []int{26, 23, 22, 16, 12, 11, 10, 8, 7, 5, 4, 2, 1, 0}

// divide works the chapter's words out bit by bit: s and 32 noughts, the first 32 bits turned where the state has a 1, divided by the polynomial.
func divide(state uint32, s string) uint32 {
	bits := make([]uint32, 8*len(s)+32)
	for k := range 8 * len(s) {
		bits[k] = uint32(s[k/8]) >> (k % 8) & 1
	}
	for k := range 32 {
		bits[k] ^= state >> k & 1
	}
	for k := range 8 * len(s) {
		if bits[k] == 1 {
			for _, p := range powers {
				bits[k+32-p] ^= 1
			}
		}
	}
	left := uint32(0)
	for k, b := range bits[8*len(s):] {
		left |= b << k
	}
	return left
}

// noise answers n bytes of all values, the same ones each time.
func noise(n int, seed uint32) string {
	b := make([]byte, n)
	for i := range b {
		seed = seed*1664525 + 1013904223
		b[i] = byte(seed >> 24)
	}
	return string(b)
}

// samples answers texts of each length up to some, those shorter than a sum too.
func samples() []string {
	var l []string
	for n := range 20 {
		l = append(l, strings.Repeat("\x00", n), strings.Repeat("\xff", n), noise(n, 1), noise(n, 77))
	}
	return append(l, "123456789", "deckle", "\xc3\xa4\xe2\x82", "\x80\xfe\xff", noise(300, 5), noise(1000, 6))
}

func states() []uint32 {
	l := []uint32{0, math.MaxUint32, 0x12345678, 0xedb88320}
	for k := range 32 {
		l = append(l, 1<<k, ^uint32(1<<k))
	}
	return l
}

func flip(s string, k int) string {
	b := []byte(s)
	b[k/8] ^= 1 << (k % 8)
	return string(b)
}

func xor(a, b string) string {
	c := []byte(a)
	for i := range c {
		c[i] ^= b[i]
	}
	return string(c)
}

// Promise 2.1.
func TestSumKnown(t *testing.T) {
	for _, c := range []struct {
		s   string
		sum uint32
	}{
		{"", 0},
		{"123456789", 0xcbf43926},
		{"a", 0xe8b7be43},
		{"abc", 0x352441c2},
		{"\x00", 0xd202ef8d},
		{"\xff", 0xff000000},
		{"\xff\xff\xff\xff", 0xffffffff},
		{"\x00\x00\x00\x00", 0x2144df1c},
		{strings.Repeat("\x00", 32), 0x190a55ad},
		{strings.Repeat("\xff", 32), 0xff6cab0b},
		{"The quick brown fox jumps over the lazy dog", 0x414fa339},
	} {
		if sum := crc.Sum(c.s); sum != c.sum {
			t.Errorf("Sum(%q): %08x, not %08x", c.s, sum, c.sum)
		}
	}
}

// Promise 2.1: the sum is what the division leaves.
func TestSumIsDivided(t *testing.T) {
	for _, s := range samples() {
		if sum, want := crc.Sum(s), ^divide(math.MaxUint32, s); sum != want {
			t.Errorf("Sum(%q): %08x, not %08x", s, sum, want)
		}
	}
	for b := range 256 {
		s := string([]byte{byte(b)})
		if sum, want := crc.Sum(s), ^divide(math.MaxUint32, s); sum != want {
			t.Errorf("Sum(%q): %08x, not %08x", s, sum, want)
		}
	}
}

// Promise 2.1: long texts, too.
func TestSumLong(t *testing.T) {
	for _, s := range []string{noise(1<<20, 9), strings.Repeat("\x00", 1<<20+3)} {
		if sum, want := crc.Sum(s), crc32.ChecksumIEEE([]byte(s)); sum != want {
			t.Errorf("sum of %d bytes: %08x, not %08x", len(s), sum, want)
		}
	}
}

// Promise 2.1: the state behind a text, of any state ahead of it.
func TestMore(t *testing.T) {
	for _, state := range states() {
		if got := crc.More(state, ""); got != state {
			t.Errorf("More(%08x, nothing): %08x", state, got)
		}
		for _, s := range samples() {
			if got, want := crc.More(state, s), divide(state, s); got != want {
				t.Fatalf("More(%08x, %q): %08x, not %08x", state, s, got, want)
			}
		}
	}
	if got := crc.More(0, strings.Repeat("\x00", 100)); got != 0 {
		t.Errorf("of no state, behind noughts: %08x", got)
	}
}

// Promise 2.1: a state turned the other way is its sum.
func TestMoreIsSum(t *testing.T) {
	for _, s := range samples() {
		if state, sum := crc.More(0xffffffff, s), crc.Sum(s); ^state != sum {
			t.Errorf("%q: state %08x, sum %08x", s, state, sum)
		}
	}
}

// Promise 2.2.
func TestSealKnown(t *testing.T) {
	for _, c := range []struct{ s, r string }{
		{"", "\x00\x00\x00\x00"},
		{"123456789", "123456789\x26\x39\xf4\xcb"},
		{"a", "a\x43\xbe\xb7\xe8"},
		{"\x00", "\x00\x8d\xef\x02\xd2"},
		{"\xff", "\xff\x00\x00\x00\xff"},
		{"\xff\xff\xff\xff", strings.Repeat("\xff", 8)},
	} {
		if r := crc.Seal(c.s); r != c.r {
			t.Errorf("Seal(%q): %q, not %q", c.s, r, c.r)
		}
	}
}

// Promise 2.2: what is sealed is whole, also when it is sealed again.
func TestSealedIsWhole(t *testing.T) {
	for _, s := range samples() {
		once := crc.Seal(s)
		if len(once) != len(s)+4 || once[:len(s)] != s || !crc.Whole(once) {
			t.Errorf("%q: sealed %q, whole %t", s, once, crc.Whole(once))
		}
		if twice := crc.Seal(once); !crc.Whole(twice) {
			t.Errorf("%q: sealed twice %q, not whole", s, twice)
		}
	}
}

// Promise 2.2: no text shorter than a sum is whole, and just one that is no longer.
func TestWholeShort(t *testing.T) {
	for n := range 4 {
		for _, s := range []string{strings.Repeat("\x00", n), strings.Repeat("\xff", n), noise(n, 3)} {
			if crc.Whole(s) {
				t.Errorf("Whole(%q)", s)
			}
		}
	}
	for b := range 256 {
		if s := string([]byte{byte(b)}); crc.Whole(s) || crc.Whole(s+"\x00") || crc.Whole("\x00"+s+"\x00") {
			t.Errorf("%q, alone or with noughts, is whole", s)
		}
	}
	const none = "\x00\x00\x00\x00"
	if !crc.Whole(none) {
		t.Error("four noughts are not whole")
	}
	for k := range 32 {
		if s := flip(none, k); crc.Whole(s) {
			t.Errorf("Whole(%q)", s)
		}
	}
	if crc.Whole("\xff\xff\xff\xff") {
		t.Error("four bytes of ones are whole")
	}
}

// Promise 2.2: a sum that is not there, stands elsewhere, or is written in another way.
func TestWholeWrong(t *testing.T) {
	for _, s := range []string{
		"123456789",
		"123456789\xcb\xf4\x39\x26",
		"123456789\xd9\xc6\x0b\x34",
		"\x26\x39\xf4\xcb123456789",
		"123456789\x26\x39\xf4",
		"23456789\x26\x39\xf4\xcb",
		"123456789\x26\x39\xf4\xcb\x00",
		"\x00123456789\x26\x39\xf4\xcb",
		"123456788\x26\x39\xf4\xcb",
		"213456789\x26\x39\xf4\xcb",
		"123456789\x00\x00\x00\x00",
		strings.Repeat("\x00", 5),
		strings.Repeat("\x00", 32),
		strings.Repeat("\xff", 7),
	} {
		if crc.Whole(s) {
			t.Errorf("Whole(%q)", s)
		}
	}
}

// Promise 2.2: another text with its own sum is whole, also where it is the polynomial that was turned.
func TestWholeByPolynomial(t *testing.T) {
	s := crc.Seal("123456789")
	for at := 0; at+33 <= 8*len(s); at++ {
		turned := flip(s, at)
		for _, p := range powers {
			turned = flip(turned, at+32-p)
		}
		if !crc.Whole(turned) || crc.Seal(turned[:len(s)-4]) != turned {
			t.Errorf("turned by the polynomial from bit %d on: %q is not whole", at, turned)
		}
	}
}

// Promise 2.3: pieces, one behind the other, have the sum of the whole.
func TestPieces(t *testing.T) {
	for _, s := range []string{"", "1", "123456789", noise(40, 2), strings.Repeat("\x00", 12)} {
		for i := 0; i <= len(s); i++ {
			for j := i; j <= len(s); j++ {
				state := crc.More(crc.More(crc.More(0xffffffff, s[:i]), s[i:j]), s[j:])
				if ^state != crc.Sum(s) {
					t.Errorf("%q in pieces at %d and %d: %08x, not %08x", s, i, j, ^state, crc.Sum(s))
				}
			}
		}
	}
}

// Promise 2.3: the sums of three texts of one length, put together, are the sum of the texts put together.
func TestThreeTexts(t *testing.T) {
	for n := range 70 {
		for _, l := range [][3]string{
			{noise(n, 1), noise(n, 2), noise(n, 3)},
			{noise(n, 4), noise(n, 4), noise(n, 5)},
			{strings.Repeat("\x00", n), strings.Repeat("\xff", n), noise(n, 6)},
		} {
			sums := crc.Sum(l[0]) ^ crc.Sum(l[1]) ^ crc.Sum(l[2])
			if sum := crc.Sum(xor(xor(l[0], l[1]), l[2])); sum != sums {
				t.Errorf("%q: %08x, not %08x", l, sum, sums)
			}
		}
	}
}

// burst answers s with the bits from the one at on turned where pattern has a 1, and whether s has them all.
func burst(s string, at int, pattern uint32) (string, bool) {
	b := []byte(s)
	for k := range 32 {
		if pattern>>k&1 == 0 {
			continue
		}
		if at+k >= 8*len(s) {
			return "", false
		}
		b[(at+k)/8] ^= 1 << ((at + k) % 8)
	}
	return string(b), true
}

// Promise 2.4: any bits of few next to one another, all ways to turn them.
func TestBurstsShort(t *testing.T) {
	for _, s := range []string{"", "\x00", "abc", "123456789"} {
		sealed := crc.Seal(s)
		for at := range 8 * len(sealed) {
			for pattern := uint32(1); pattern < 1<<11; pattern += 2 {
				if turned, ok := burst(sealed, at, pattern); ok && crc.Whole(turned) {
					t.Fatalf("%q, turned by %x from bit %d on, is whole", sealed, pattern, at)
				}
			}
		}
	}
}

// Promise 2.4: up to 32 bits next to one another, both ends turned, and some between them.
func TestBurstsWide(t *testing.T) {
	for _, s := range samples()[:60] {
		sealed := crc.Seal(s)
		for at := range 8 * len(sealed) {
			for wide := range 32 {
				ends := uint32(1) | 1<<wide
				for _, inner := range []uint32{0, math.MaxUint32, 0xaaaaaaaa, 0x55555555, 0x9e3779b9, uint32(at) * 0x85ebca6b} {
					pattern := inner&(1<<wide-1) | ends
					if turned, ok := burst(sealed, at, pattern); ok && crc.Whole(turned) {
						t.Fatalf("%q, turned by %x from bit %d on, is whole", sealed, pattern, at)
					}
				}
			}
		}
	}
}
