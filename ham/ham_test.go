package ham_test

import (
	"strings"
	"testing"

	"deckle/api"
	"deckle/ham"
)

const (
	dataBits  = 64
	chunkBits = 72
)

// placeOf answers the place of the bit k of nine bytes, counted out as the chapter says it; 0 for the last one, which has none.
func placeOf(k int) int {
	switch {
	case k == chunkBits-1:
		return 0
	case k >= dataBits:
		return 1 << (k - dataBits)
	}
	place := 2
	for range k + 1 {
		place++
		for place&(place-1) == 0 {
			place++
		}
	}
	return place
}

func bitOf(s string, k int) int { return int(s[k/8]) >> (k % 8) & 1 }

func flip(s string, ks ...int) string {
	b := []byte(s)
	for _, k := range ks {
		b[k/8] ^= 1 << (k % 8)
	}
	return string(b)
}

// count answers what is left of the places of all bits of s that are 1, and how many these are.
func count(s string) (left, ones int) {
	for k := range 8 * len(s) {
		if bitOf(s, k) == 1 {
			left ^= placeOf(k)
			ones++
		}
	}
	return left, ones
}

// judge decodes nine bytes as the chapter's words say it.
func judge(s string) (string, int) {
	left, ones := count(s)
	switch {
	case ones%2 == 0 && left == 0:
		return s[:8], api.PGood
	case ones%2 == 0, left > 71:
		return "", api.PBad
	}
	for k := range dataBits {
		if placeOf(k) == left {
			return flip(s, k)[:8], api.PFixed
		}
	}
	return s[:8], api.PFixed
}

// noise answers n bytes of all values, the same ones each time.
func noise(n int, seed uint32) string {
	b := make([]byte, n)
	for i := range b {
		seed = seed*1664525 + 1013904223
		b[i] = byte(seed >> 24)
	}
	return string(b)
}

// samples answers texts of eight bytes: each bit alone, each bit missing, and others.
func samples() []string {
	none, all := strings.Repeat("\x00", 8), strings.Repeat("\xff", 8)
	l := []string{none, all, "deckle..", "12345678", "\xc3\xa4\xe2\x82\xac\x80\xfe\xff", "\xaa\x55\xaa\x55\xaa\x55\xaa\x55"}
	for k := range dataBits {
		l = append(l, flip(none, k), flip(all, k))
	}
	for seed := range uint32(40) {
		l = append(l, noise(8, seed))
	}
	return l
}

func encode(t *testing.T, s string) string {
	t.Helper()
	c, e := ham.Encode(s)
	if e != api.OK || len(c) != 9 {
		t.Fatalf("Encode(%q): %q, %d", s, c, e)
	}
	return c
}

func wantDecoded(t *testing.T, s, data string, what int) {
	t.Helper()
	d, w, e := ham.Decode(s)
	if d != data || w != what || e != api.OK {
		t.Errorf("Decode(%q): %q, %d, %d, not %q, %d", s, d, w, e, data, what)
	}
}

// The places that the tests count out are those that the chapter names.
func TestPlacesCounted(t *testing.T) {
	for k, place := range []int{3, 5, 6, 7, 9} {
		if placeOf(k) != place {
			t.Errorf("the bit %d: %d, not %d", k, placeOf(k), place)
		}
	}
	for _, c := range [][2]int{{63, 71}, {64, 1}, {65, 2}, {70, 64}, {71, 0}} {
		if placeOf(c[0]) != c[1] {
			t.Errorf("the bit %d: %d, not %d", c[0], placeOf(c[0]), c[1])
		}
	}
}

// Promise 3.1.
func TestEncodeKnown(t *testing.T) {
	for _, c := range []struct {
		s     string
		check byte
	}{
		{"\x00\x00\x00\x00\x00\x00\x00\x00", 0x00},
		{"\x01\x00\x00\x00\x00\x00\x00\x00", 0x83},
		{"\x02\x00\x00\x00\x00\x00\x00\x00", 0x85},
		{"\x08\x00\x00\x00\x00\x00\x00\x00", 0x07},
		{"\x03\x00\x00\x00\x00\x00\x00\x00", 0x06},
		{"\x00\x00\x00\x00\x00\x00\x00\x80", 0xc7},
		{"\x00\x00\x00\x00\x00\x00\x00\x40", 0x46},
	} {
		want := c.s + string([]byte{c.check})
		if r, e := ham.Encode(c.s); r != want || e != api.OK {
			t.Errorf("Encode(%q): %q, %d, not %q", c.s, r, e, want)
		}
	}
}

// Promise 3.1: nothing is left of the places, and the number of ones is even.
func TestEncodeLeavesNothing(t *testing.T) {
	for _, s := range samples() {
		c := encode(t, s)
		if left, ones := count(c); c[:8] != s || left != 0 || ones%2 != 0 {
			t.Errorf("Encode(%q): %q, of which %d is left, and %d bits are 1", s, c, left, ones)
		}
	}
}

// Promise 3.1: texts of other than eight bytes.
func TestEncodeShape(t *testing.T) {
	for _, n := range []int{0, 1, 2, 3, 4, 5, 6, 7, 9, 10, 15, 16, 17, 64, 72, 256, 264, 65544} {
		for _, s := range []string{strings.Repeat("\x00", n), strings.Repeat("\xff", n), noise(n, 1)} {
			if c, e := ham.Encode(s); c != "" || e != api.ErrShape {
				t.Errorf("Encode of %d bytes: %q, %d", n, c, e)
			}
		}
	}
}

// Promise 3.2: texts of other than nine bytes.
func TestDecodeShape(t *testing.T) {
	for _, n := range []int{0, 1, 2, 3, 4, 5, 6, 7, 8, 10, 11, 16, 17, 18, 72, 81, 256, 265, 65545} {
		for _, s := range []string{strings.Repeat("\x00", n), strings.Repeat("\xff", n), noise(n, 1)} {
			if d, w, e := ham.Decode(s); d != "" || w != 0 || e != api.ErrShape {
				t.Errorf("Decode of %d bytes: %q, %d, %d", n, d, w, e)
			}
		}
	}
}

// Promise 3.2: the example, and what is left of its bits, one by one.
func TestDecodeKnown(t *testing.T) {
	const none, one = "\x00\x00\x00\x00\x00\x00\x00\x00", "\x01\x00\x00\x00\x00\x00\x00\x00"
	for _, c := range []struct {
		s, data string
		what    int
	}{
		{none + "\x00", none, api.PGood},
		{one + "\x83", one, api.PGood},
		{none + "\x83", one, api.PFixed},
		{one + "\x03", one, api.PFixed},
		{one + "\x82", one, api.PFixed},
		{one + "\xc3", one, api.PFixed},
		{one + "\x00", none, api.PFixed},
		{none + "\x01", none, api.PFixed},
		{none + "\x40", none, api.PFixed},
		{none + "\x80", none, api.PFixed},
		{none + "\x03", "", api.PBad},
		{none + "\x81", "", api.PBad},
		{one + "\x80", "", api.PBad},
	} {
		wantDecoded(t, c.s, c.data, c.what)
	}
}

// Promise 3.2: what is left above 71 has no bit, so it is bad; 71 is the last one that has.
func TestDecodeAboveLastPlace(t *testing.T) {
	for _, s := range samples() {
		c := encode(t, s)
		for left := range 128 {
			// The check alone is turned, so that what is left is known, and the number of ones odd.
			turned := []byte(c)
			turned[8] ^= byte(left)
			if _, ones := count(string(turned)); ones%2 == 0 {
				turned[8] ^= 0x80
			}
			switch {
			case left > 71:
				wantDecoded(t, string(turned), "", api.PBad)
			case left&(left-1) == 0:
				wantDecoded(t, string(turned), s, api.PFixed)
			default:
				data, _ := judge(string(turned))
				if data == s {
					t.Fatalf("%q, what is left %d: judged as unturned", s, left)
				}
				wantDecoded(t, string(turned), data, api.PFixed)
			}
		}
	}
}

// Promise 3.2: an even number of ones of which something is left is bad, whatever it is.
func TestDecodeEvenLeft(t *testing.T) {
	for _, s := range samples() {
		c := encode(t, s)
		for left := 1; left < 128; left++ {
			turned := []byte(c)
			turned[8] ^= byte(left)
			if _, ones := count(string(turned)); ones%2 == 1 {
				turned[8] ^= 0x80
			}
			wantDecoded(t, string(turned), "", api.PBad)
		}
	}
}

// Promise 3.2: each check beside some bytes, and any nine bytes.
func TestDecodeAny(t *testing.T) {
	for _, s := range samples() {
		for check := range 256 {
			c := s + string([]byte{byte(check)})
			data, what := judge(c)
			wantDecoded(t, c, data, what)
		}
	}
	for seed := range uint32(3000) {
		c := noise(9, seed*7919)
		data, what := judge(c)
		wantDecoded(t, c, data, what)
	}
}

// Promise 3.2: three bits turned come to what the words say, also where that is other bytes than they were.
func TestDecodeThreeTurned(t *testing.T) {
	told := map[int]int{}
	for _, s := range []string{strings.Repeat("\x00", 8), "12345678"} {
		c := encode(t, s)
		for i := range chunkBits {
			for j := range i {
				for k := range j {
					turned := flip(c, i, j, k)
					data, what := judge(turned)
					told[what]++
					wantDecoded(t, turned, data, what)
				}
			}
		}
	}
	if told[api.PFixed] == 0 || told[api.PBad] == 0 || told[api.PGood] != 0 {
		t.Errorf("told: %v", told)
	}
}

// Promise 3.2: four bits turned whose places leave nothing are good, as other bytes.
func TestDecodeFourTurned(t *testing.T) {
	c := encode(t, "12345678")
	// The places 3, 5, 9 and 15.
	turned := flip(c, 0, 1, 4, 10)
	wantDecoded(t, turned, turned[:8], api.PGood)
	// The places 3 and 1, 2, and the bit that has none.
	turned = flip(c, 0, 64, 65, 71)
	wantDecoded(t, turned, turned[:8], api.PGood)
}

// Promise 3.3: what is encoded is decoded.
func TestThereAndBack(t *testing.T) {
	for _, s := range samples() {
		wantDecoded(t, encode(t, s), s, api.PGood)
	}
	for seed := range uint32(3000) {
		s := noise(8, seed*104729)
		wantDecoded(t, encode(t, s), s, api.PGood)
	}
}

// Promise 3.3: any one bit turned, of the bytes and of the check, is put right.
func TestOneTurned(t *testing.T) {
	for _, s := range samples() {
		c := encode(t, s)
		for k := range chunkBits {
			wantDecoded(t, flip(c, k), s, api.PFixed)
		}
	}
}

// Promise 3.3: any two bits turned are told as bad.
func TestTwoTurned(t *testing.T) {
	for _, s := range samples() {
		c := encode(t, s)
		for i := range chunkBits {
			for j := range i {
				wantDecoded(t, flip(c, i, j), "", api.PBad)
			}
		}
	}
}
