package tag_test

import (
	"math"
	"strings"
	"testing"

	"deckle/api"
	"deckle/tag"
)

const maxInt, minInt = math.MaxInt, math.MinInt

// The limits, written out as the document says them.
const (
	mostLba   = 4096
	mostSeq   = 281474976710655
	mostEpoch = 4294967295
)

// whole is the chapter's example.
const whole = "\x1b\x01\x02\x01\x03\x00\x00\x00\x00\x00\x04\x00\x00\x00\x00\x00"

// bytesOf answers the sixteen bytes of a tag, divided out one by one as the chapter says them.
func bytesOf(t api.Tag) string {
	b := []byte{0x1b}
	for _, part := range []struct{ v, n int }{{t.Kind, 1}, {t.Lba, 2}, {t.Seq, 6}, {t.Epoch, 4}, {0, 2}} {
		v := part.v
		for range part.n {
			b = append(b, byte(v%256))
			v /= 256
		}
	}
	return string(b)
}

// with answers s with its byte i another one.
func with(s string, i int, v byte) string {
	b := []byte(s)
	b[i] = v
	return string(b)
}

// product answers all tags of these kinds, sectors, numbers and epochs.
func product(kinds, lbas, seqs, epochs []int) []api.Tag {
	var l []api.Tag
	for _, k := range kinds {
		for _, a := range lbas {
			for _, s := range seqs {
				for _, e := range epochs {
					l = append(l, api.Tag{Kind: k, Lba: a, Seq: s, Epoch: e})
				}
			}
		}
	}
	return l
}

// good answers tags that may be: each part at its least, its greatest, one within these, and where a byte begins.
func good() []api.Tag {
	return product(
		[]int{api.KData, api.KFill, api.KSnap, api.KLog},
		[]int{0, 1, 2, 255, 256, 258, 4095, mostLba},
		[]int{0, 1, 3, 255, 256, 0x010203040506, 0xfeff00000000, 1 << 47, mostSeq - 1, mostSeq},
		[]int{0, 1, 4, 255, 256, 0x01020304, 1 << 31, mostEpoch - 1, mostEpoch},
	)
}

// beyond answers tags of which one part may not be.
func beyond() []api.Tag {
	var l []api.Tag
	for _, t := range []api.Tag{{Kind: 1}, {Kind: 4, Lba: mostLba, Seq: mostSeq, Epoch: mostEpoch}, {Kind: 2, Lba: 7, Seq: 8, Epoch: 9}} {
		for _, k := range []int{0, -1, 5, 6, 255, 256, 257, 258, 1 << 32, 1<<32 + 1, maxInt, minInt, minInt + 1} {
			bad := t
			bad.Kind = k
			l = append(l, bad)
		}
		for _, a := range []int{-1, mostLba + 1, 65535, 65536, 65537, -65536, 1 << 32, maxInt, minInt} {
			bad := t
			bad.Lba = a
			l = append(l, bad)
		}
		for _, s := range []int{-1, mostSeq + 1, mostSeq + 2, -mostSeq - 1, 1 << 56, maxInt, minInt} {
			bad := t
			bad.Seq = s
			l = append(l, bad)
		}
		for _, e := range []int{-1, mostEpoch + 1, mostEpoch + 2, -mostEpoch - 1, 1 << 40, maxInt, minInt} {
			bad := t
			bad.Epoch = e
			l = append(l, bad)
		}
	}
	return append(l, api.Tag{}, api.Tag{Kind: -1, Lba: -1, Seq: -1, Epoch: -1}, api.Tag{Kind: 5, Lba: mostLba + 1, Seq: mostSeq + 1, Epoch: mostEpoch + 1})
}

func wantRefused(t *testing.T, s string) {
	t.Helper()
	if r, e := tag.Decode(s); r != (api.Tag{}) || e != api.ErrForm {
		t.Errorf("Decode(%q): %v, %d", s, r, e)
	}
}

// Promise 4.1: each part at its least and its greatest, and within.
func TestMay(t *testing.T) {
	for _, g := range good() {
		if !tag.May(g) {
			t.Errorf("May(%v): false", g)
		}
	}
	for a := range mostLba + 1 {
		if !tag.May(api.Tag{Kind: api.KData, Lba: a}) {
			t.Errorf("May of the sector %d: false", a)
		}
	}
}

// Promise 4.1: one part beyond what it may be, and all of them.
func TestMayNot(t *testing.T) {
	for _, b := range beyond() {
		if tag.May(b) {
			t.Errorf("May(%v): true", b)
		}
	}
}

// Promise 4.1: the example, and tags with a byte of its own at each place.
func TestEncodeKnown(t *testing.T) {
	for _, c := range []struct {
		t    api.Tag
		want string
	}{
		{api.Tag{Kind: 1, Lba: 258, Seq: 3, Epoch: 4}, whole},
		{api.Tag{Kind: 4, Lba: 0x0a05, Seq: 0x161514131211, Epoch: 0x24232221}, "\x1b\x04\x05\x0a\x11\x12\x13\x14\x15\x16\x21\x22\x23\x24\x00\x00"},
		{api.Tag{Kind: 2}, "\x1b\x02" + strings.Repeat("\x00", 14)},
		{api.Tag{Kind: 3, Lba: mostLba, Seq: mostSeq, Epoch: mostEpoch}, "\x1b\x03\x00\x10\xff\xff\xff\xff\xff\xff\xff\xff\xff\xff\x00\x00"},
	} {
		if s, e := tag.Encode(c.t); s != c.want || e != api.OK {
			t.Errorf("Encode(%v): %q, %d, not %q", c.t, s, e, c.want)
		}
		if r, e := tag.Decode(c.want); r != c.t || e != api.OK {
			t.Errorf("Decode(%q): %v, %d, not %v", c.want, r, e, c.t)
		}
	}
}

// Promise 4.1: bytes of each tag that may be.
func TestEncode(t *testing.T) {
	for _, g := range good() {
		if s, e := tag.Encode(g); s != bytesOf(g) || e != api.OK {
			t.Errorf("Encode(%v): %q, %d", g, s, e)
		}
	}
}

// Promise 4.1: no bytes of a tag that may not be.
func TestEncodeRange(t *testing.T) {
	for _, b := range beyond() {
		if s, e := tag.Encode(b); s != "" || e != api.ErrRange {
			t.Errorf("Encode(%v): %q, %d", b, s, e)
		}
	}
}

// Promise 4.1: texts of other than sixteen bytes.
func TestDecodeLength(t *testing.T) {
	long := whole + strings.Repeat("\x00", 272)
	for n := range len(long) + 1 {
		if n != 16 {
			wantRefused(t, long[:n])
		}
	}
	wantRefused(t, "\x00"+whole)
	wantRefused(t, "\x1b"+whole)
	wantRefused(t, whole+whole)
	wantRefused(t, whole[:12]+whole)
}

// Promise 4.1: a first byte that is not 1B, and last bytes that are not nought.
func TestDecodeFirstAndLast(t *testing.T) {
	for v := range 256 {
		if v != 0x1b {
			wantRefused(t, with(whole, 0, byte(v)))
		}
		if v != 0 {
			wantRefused(t, with(whole, 14, byte(v)))
			wantRefused(t, with(whole, 15, byte(v)))
			wantRefused(t, with(with(whole, 14, byte(v)), 15, byte(v)))
		}
	}
	wantRefused(t, strings.Repeat("\x00", 16))
	wantRefused(t, strings.Repeat("\xff", 16))
	wantRefused(t, strings.Repeat("\x1b", 16))
}

// Promise 4.1: each kind that has room in a byte.
func TestDecodeKinds(t *testing.T) {
	for k := range 256 {
		s := with(whole, 1, byte(k))
		if k < 1 || k > 4 {
			wantRefused(t, s)
		} else if r, e := tag.Decode(s); r != (api.Tag{Kind: k, Lba: 258, Seq: 3, Epoch: 4}) || e != api.OK {
			t.Errorf("Decode(%q): %v, %d", s, r, e)
		}
	}
}

// Promise 4.1: each sector that has room in two bytes.
func TestDecodeLbas(t *testing.T) {
	for a := range 65536 {
		g := api.Tag{Kind: api.KLog, Lba: a, Seq: mostSeq, Epoch: mostEpoch}
		s := bytesOf(g)
		if a > mostLba {
			wantRefused(t, s)
		} else if r, e := tag.Decode(s); r != g || e != api.OK {
			t.Errorf("Decode(%q): %v, %d", s, r, e)
		}
	}
}

// Promise 4.2: tags go there and back.
func TestThereAndBack(t *testing.T) {
	for _, g := range good() {
		s, _ := tag.Encode(g)
		if r, e := tag.Decode(s); r != g || e != api.OK {
			t.Errorf("Decode(Encode(%v)): %v, %d", g, r, e)
		}
	}
}

// Promise 4.2: different tags have different bytes.
func TestBytesDiffer(t *testing.T) {
	of := map[string]api.Tag{}
	for _, g := range good() {
		s, _ := tag.Encode(g)
		if other, ok := of[s]; ok {
			t.Errorf("%v and %v: %q", g, other, s)
		}
		of[s] = g
		if again, _ := tag.Encode(g); again != s {
			t.Errorf("Encode(%v): %q, then %q", g, s, again)
		}
	}
}

// Promise 4.2: bytes with one bit turned are another tag's, or none's.
func TestOneTurned(t *testing.T) {
	for i, g := range good() {
		if i%7 != 0 {
			continue
		}
		s, _ := tag.Encode(g)
		for k := range 128 {
			turned := with(s, k/8, s[k/8]^1<<(k%8))
			r, e := tag.Decode(turned)
			if e == api.OK && (r == g || bytesOf(r) != turned) || e != api.OK && (e != api.ErrForm || r != api.Tag{}) {
				t.Errorf("Decode(%q): %v, %d", turned, r, e)
			}
		}
	}
}
