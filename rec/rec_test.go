package rec_test

import (
	"math"
	"strings"
	"testing"

	"deckle/api"
	"deckle/rec"
)

const maxInt, minInt = math.MaxInt, math.MinInt

// The kinds, modes and limits, written out as the document says them.
const (
	trim, delta, commit, erase = 1, 2, 3, 4
	slc, tlc                   = 1, 2

	mostLba   = 4096
	mostBlock = 63
	mostSeq   = 281474976710655
	mostEpoch = 4294967295
)

// whole is the chapter's example.
const whole = "\x01\x02\x01\x03\x00\x00\x00\x00\x00"

// bound is what A and B may be of a kind, both ends with it.
type bound struct{ kind, leastA, mostA, leastB, mostB int }

// bounds answers what the chapter says of each kind.
func bounds() []bound {
	return []bound{
		{trim, 0, mostLba, 0, mostSeq},
		{delta, 0, mostLba, 0, mostSeq},
		{commit, 0, mostBlock, 1, mostEpoch},
		{erase, 0, mostBlock, slc, tlc},
	}
}

// mayBe is the chapter's words for May.
func mayBe(r api.Rec) bool {
	for _, b := range bounds() {
		if r.Kind == b.kind {
			return r.A >= b.leastA && r.A <= b.mostA && r.B >= b.leastB && r.B <= b.mostB
		}
	}
	return false
}

// bytesOf answers the nine bytes of a record, divided out one by one as the chapter says them.
func bytesOf(r api.Rec) string {
	var b []byte
	for _, part := range []struct{ v, n int }{{r.Kind, 1}, {r.A, 2}, {r.B, 6}} {
		v := part.v
		for range part.n {
			b = append(b, byte(v%256))
			v /= 256
		}
	}
	return string(b)
}

// with answers s with its byte i another one.
func with(s string, i int, v byte) string {
	b := []byte(s)
	b[i] = v
	return string(b)
}

// someAs answers numbers for A: all ends of what it may be, one beyond each, where a byte begins, and far out.
func someAs() []int {
	return []int{
		0, 1, 2, 62, 63, 64, 65, 255, 256, 257, 258, 4095, 4096, 4097, 4098, 8192,
		32767, 32768, 65535, 65536, 65537, 65536 + 63, 65536 + 4096, 1 << 24, 1 << 32, 1<<48 + 3, maxInt,
		-1, -2, -63, -64, -4096, -65535, -65536, -65536 + 63, -1 << 32, minInt, minInt + 1,
	}
}

// someBs answers numbers for B, as someAs does for A.
func someBs() []int {
	return []int{
		0, 1, 2, 3, 4, 255, 256, 257, 258, 65535, 65536, 65537, 1<<24 - 1, 1 << 24,
		1<<31 - 1, 1 << 31, 1<<32 - 2, 1<<32 - 1, 1 << 32, 1<<32 + 1, 1<<32 + 2, 1<<40 + 1,
		0x060504030201, 1 << 47, 1<<48 - 2, 1<<48 - 1, 1 << 48, 1<<48 + 1, 1<<48 + 2, 1 << 56, maxInt,
		-1, -2, -3, -255, -256, -1 << 32, -1<<32 + 1, -1 << 48, -1<<48 + 1, -1<<48 + 2, minInt, minInt + 1, minInt + 2,
	}
}

// wrongKinds answers kinds that there are not; of many the lowest byte, or the lowest four, are those of one that there is.
func wrongKinds() []int {
	return []int{
		0, 5, 6, 7, 8, 127, 128, 255, 256, 257, 258, 259, 260, 513, 65537, 1<<32 + 1, 1<<32 + 2, 1<<32 + 3, 1<<32 + 4, 1 << 56, maxInt, maxInt - 250,
		-1, -2, -3, -4, -252, -253, -254, -255, -256, -1<<32 + 1, -1<<32 + 4, minInt, minInt + 1, minInt + 4,
	}
}

// good answers records of each kind that may be.
func good() []api.Rec {
	var l []api.Rec
	for _, b := range bounds() {
		for _, x := range someAs() {
			for _, y := range someBs() {
				if r := (api.Rec{Kind: b.kind, A: x, B: y}); mayBe(r) {
					l = append(l, r)
				}
			}
		}
	}
	return l
}

func wantMay(t *testing.T, r api.Rec) {
	t.Helper()
	if !rec.May(r) {
		t.Errorf("May(%v): false", r)
	}
	s, e := rec.Put(r)
	if s != bytesOf(r) || e != api.OK {
		t.Errorf("Put(%v): %q, %d", r, s, e)
	}
	if back, e := rec.Take(bytesOf(r)); back != r || e != api.OK {
		t.Errorf("Take of %v: %v, %d", r, back, e)
	}
}

func wantMayNot(t *testing.T, r api.Rec) {
	t.Helper()
	if rec.May(r) {
		t.Errorf("May(%v): true", r)
	}
	if s, e := rec.Put(r); s != "" || e != api.ErrRec {
		t.Errorf("Put(%v): %q, %d", r, s, e)
	}
}

func wantNone(t *testing.T, s string) {
	t.Helper()
	if r, e := rec.Take(s); r != (api.Rec{}) || e != api.ErrForm {
		t.Errorf("Take(%q): %v, %d", s, r, e)
	}
}

// wantOf holds all three calls against the chapter's words.
func wantOf(t *testing.T, r api.Rec) {
	t.Helper()
	if mayBe(r) {
		wantMay(t, r)
	} else {
		wantMayNot(t, r)
	}
}

// Promise 11.1: the errors' numbers are those that the chapter lists.
func TestCodes(t *testing.T) {
	if _, e := rec.Put(api.Rec{}); e != 110 {
		t.Error(e)
	}
	if _, e := rec.Take(""); e != 3 {
		t.Error(e)
	}
}

// Promise 11.1: each kind at both ends of what A and B may be.
func TestEnds(t *testing.T) {
	for _, b := range bounds() {
		for _, x := range []int{b.leastA, b.leastA + 1, b.mostA / 2, b.mostA - 1, b.mostA} {
			for _, y := range []int{b.leastB, b.leastB + 1, (b.leastB + b.mostB) / 2, b.mostB - 1, b.mostB} {
				wantMay(t, api.Rec{Kind: b.kind, A: x, B: y})
			}
		}
	}
}

// Promise 11.1: each kind with A beyond its ends, B beyond them, or both.
func TestBeyondEnds(t *testing.T) {
	for _, b := range bounds() {
		outA := []int{b.leastA - 1, b.mostA + 1, b.leastA - 65536, b.mostA + 65536, b.leastA + 65536, 1 << 32, maxInt, minInt}
		outB := []int{b.leastB - 1, b.mostB + 1, -b.mostB, b.leastB - 1<<48, b.leastB + 1<<48, b.mostB + 1<<48, 1 << 56, maxInt, minInt}
		for _, x := range outA {
			for _, y := range []int{b.leastB, b.mostB} {
				wantMayNot(t, api.Rec{Kind: b.kind, A: x, B: y})
			}
			for _, y := range outB {
				wantMayNot(t, api.Rec{Kind: b.kind, A: x, B: y})
			}
		}
		for _, y := range outB {
			for _, x := range []int{b.leastA, b.mostA} {
				wantMayNot(t, api.Rec{Kind: b.kind, A: x, B: y})
			}
		}
	}
}

// Promise 11.1: each kind that there is, with each A and B of the tables.
func TestAllTogether(t *testing.T) {
	for _, b := range bounds() {
		for _, x := range someAs() {
			for _, y := range someBs() {
				wantOf(t, api.Rec{Kind: b.kind, A: x, B: y})
			}
		}
	}
}

// Promise 11.1: each A around and within its ends.
func TestEachA(t *testing.T) {
	for _, b := range bounds() {
		for x := -70000; x <= 70000; x++ {
			r := api.Rec{Kind: b.kind, A: x, B: b.leastB}
			if rec.May(r) != mayBe(r) {
				t.Errorf("May(%v): %v", r, rec.May(r))
			}
		}
	}
}

// Promise 11.1: a kind that is none of the four, with an A and B of each that there is.
func TestWrongKinds(t *testing.T) {
	for _, k := range wrongKinds() {
		for _, g := range good() {
			if g.A > 1 && g.A != mostBlock && g.A != mostLba {
				continue
			}
			wantMayNot(t, api.Rec{Kind: k, A: g.A, B: g.B})
		}
	}
	for k := -300; k <= 600; k++ {
		wantOf(t, api.Rec{Kind: k, A: 1, B: 1})
	}
	wantMayNot(t, api.Rec{})
}

// Promise 11.1: modes of a block that is to be erased; that of none, and what is no mode.
func TestModes(t *testing.T) {
	for _, a := range []int{0, 5, mostBlock} {
		wantMay(t, api.Rec{Kind: erase, A: a, B: api.MSlc})
		wantMay(t, api.Rec{Kind: erase, A: a, B: api.MTlc})
		wantMayNot(t, api.Rec{Kind: erase, A: a, B: api.MNone})
		for y := 3; y < 70000; y++ {
			if r := (api.Rec{Kind: erase, A: a, B: y}); rec.May(r) {
				t.Errorf("May(%v): true", r)
			}
		}
	}
}

// Promise 11.1: what may be of one kind, and not of another.
func TestOneKindsBounds(t *testing.T) {
	for _, c := range []struct {
		a, b int
		of   [4]bool // trim, delta, commit, erase
	}{
		{0, 0, [4]bool{true, true, false, false}},
		{0, 1, [4]bool{true, true, true, true}},
		{mostBlock, tlc, [4]bool{true, true, true, true}},
		{mostBlock, 0, [4]bool{true, true, false, false}},
		{mostBlock, 3, [4]bool{true, true, true, false}},
		{mostBlock, mostEpoch, [4]bool{true, true, true, false}},
		{mostBlock, mostEpoch + 1, [4]bool{true, true, false, false}},
		{mostBlock, mostSeq, [4]bool{true, true, false, false}},
		{mostBlock, mostSeq + 1, [4]bool{}},
		{mostBlock + 1, 1, [4]bool{true, true, false, false}},
		{mostBlock + 1, tlc, [4]bool{true, true, false, false}},
		{mostLba, 1, [4]bool{true, true, false, false}},
		{mostLba + 1, 1, [4]bool{}},
		{-1, 1, [4]bool{}},
		{0, -1, [4]bool{}},
	} {
		for i, ok := range c.of {
			r := api.Rec{Kind: i + 1, A: c.a, B: c.b}
			if ok {
				wantMay(t, r)
			} else {
				wantMayNot(t, r)
			}
		}
	}
}

// Promise 11.1: what may be of a block to be erased may be of one that counts, what of that one of a sector; both kinds of sectors have the same bounds.
func TestNarrowerKinds(t *testing.T) {
	for _, x := range someAs() {
		for _, y := range someBs() {
			of := func(kind int) bool { return rec.May(api.Rec{Kind: kind, A: x, B: y}) }
			if of(erase) && !of(commit) || of(commit) && !of(delta) || of(trim) != of(delta) {
				t.Errorf("A %d, B %d: %v, %v, %v, %v", x, y, of(trim), of(delta), of(commit), of(erase))
			}
		}
	}
}

// Promise 11.1: the example, and records whose A and B fill all their bytes, each in its place.
func TestBytesKnown(t *testing.T) {
	for _, c := range []struct {
		r    api.Rec
		want string
	}{
		{api.Rec{Kind: trim, A: 258, B: 3}, whole},
		{api.Rec{Kind: trim, A: 0x0f0e, B: 0x161514131211}, "\x01\x0e\x0f\x11\x12\x13\x14\x15\x16"},
		{api.Rec{Kind: delta, A: 0x0a05, B: 0xf6e5d4c3b2a1}, "\x02\x05\x0a\xa1\xb2\xc3\xd4\xe5\xf6"},
		{api.Rec{Kind: delta, A: mostLba, B: mostSeq}, "\x02\x00\x10\xff\xff\xff\xff\xff\xff"},
		{api.Rec{Kind: trim}, "\x01\x00\x00\x00\x00\x00\x00\x00\x00"},
		{api.Rec{Kind: commit, A: 0x2a, B: 0x84838281}, "\x03\x2a\x00\x81\x82\x83\x84\x00\x00"},
		{api.Rec{Kind: commit, A: mostBlock, B: mostEpoch}, "\x03\x3f\x00\xff\xff\xff\xff\x00\x00"},
		{api.Rec{Kind: commit, A: 0, B: 1}, "\x03\x00\x00\x01\x00\x00\x00\x00\x00"},
		{api.Rec{Kind: erase, A: 7, B: slc}, "\x04\x07\x00\x01\x00\x00\x00\x00\x00"},
		{api.Rec{Kind: erase, A: mostBlock, B: tlc}, "\x04\x3f\x00\x02\x00\x00\x00\x00\x00"},
	} {
		if s, e := rec.Put(c.r); s != c.want || e != api.OK {
			t.Errorf("Put(%v): %q, %d, not %q", c.r, s, e, c.want)
		}
		if r, e := rec.Take(c.want); r != c.r || e != api.OK {
			t.Errorf("Take(%q): %v, %d, not %v", c.want, r, e, c.r)
		}
	}
}

// Promise 11.1: texts of other than nine bytes, of each kind.
func TestTakeLength(t *testing.T) {
	for _, b := range bounds() {
		one := bytesOf(api.Rec{Kind: b.kind, A: 1, B: 1})
		long := one + strings.Repeat("\x00", 272)
		for n := range len(long) + 1 {
			if n != len(one) {
				wantNone(t, long[:n])
			}
		}
		wantNone(t, one[1:])
		wantNone(t, "\x00"+one)
		wantNone(t, one+"\xff")
		wantNone(t, one+one)
	}
}

// Promise 11.1: each byte as a kind.
func TestTakeKinds(t *testing.T) {
	for k := range 256 {
		s := with("\x00\x05\x00\x02\x00\x00\x00\x00\x00", 0, byte(k))
		if k < 1 || k > 4 {
			wantNone(t, s)
			wantNone(t, with(whole, 0, byte(k)))
		} else if r, e := rec.Take(s); r != (api.Rec{Kind: k, A: 5, B: 2}) || e != api.OK {
			t.Errorf("Take(%q): %v, %d", s, r, e)
		}
	}
	wantNone(t, strings.Repeat("\x00", 9))
	wantNone(t, strings.Repeat("\xff", 9))
}

// Promise 11.1: each A that has room in two bytes, of each kind.
func TestTakeAs(t *testing.T) {
	for _, b := range bounds() {
		for x := range 65536 {
			want := api.Rec{Kind: b.kind, A: x, B: b.mostB}
			s := bytesOf(want)
			if x > b.mostA {
				wantNone(t, s)
			} else if r, e := rec.Take(s); r != want || e != api.OK {
				t.Errorf("Take(%q): %v, %d", s, r, e)
			}
		}
	}
}

// Promise 11.1: B at the ends of each kind, just beyond, and with each of its bytes another one.
func TestTakeBs(t *testing.T) {
	for _, b := range bounds() {
		bs := []int{b.leastB, b.mostB}
		for _, y := range []int{b.leastB - 1, b.mostB + 1} {
			if y >= 0 && y <= mostSeq {
				bs = append(bs, y)
			}
		}
		for _, x := range []int{b.leastA, b.mostA} {
			for _, y := range bs {
				wantTaken(t, bytesOf(api.Rec{Kind: b.kind, A: x, B: y}))
			}
			for i := 3; i < 9; i++ {
				for v := range 256 {
					wantTaken(t, with(bytesOf(api.Rec{Kind: b.kind, A: x, B: b.mostB}), i, byte(v)))
				}
			}
		}
	}
}

// wantTaken holds Take of nine bytes against what these say, byte by byte.
func wantTaken(t *testing.T, s string) {
	t.Helper()
	b := 0
	for i := 8; i > 2; i-- {
		b = b*256 + int(s[i])
	}
	want := api.Rec{Kind: int(s[0]), A: int(s[1]) + 256*int(s[2]), B: b}
	if !mayBe(want) {
		wantNone(t, s)
	} else if r, e := rec.Take(s); r != want || e != api.OK {
		t.Errorf("Take(%q): %v, %d, not %v", s, r, e, want)
	}
}

// Promise 11.1: bytes with each bit turned are what they say, or no record's.
func TestTakeTurned(t *testing.T) {
	for _, g := range good() {
		s := bytesOf(g)
		for k := range 72 {
			wantTaken(t, with(s, k/8, s[k/8]^1<<(k%8)))
		}
	}
}

// Promise 11.2: what is put is taken, what is taken is put.
func TestThereAndBack(t *testing.T) {
	for _, g := range good() {
		s, e := rec.Put(g)
		if e != api.OK {
			t.Fatalf("Put(%v): %d", g, e)
		}
		r, e := rec.Take(s)
		if r != g || e != api.OK {
			t.Errorf("Take(Put(%v)): %v, %d", g, r, e)
		}
		if again, e := rec.Put(r); again != s || e != api.OK {
			t.Errorf("Put(Take(%q)): %q, %d", s, again, e)
		}
	}
}

// Promise 11.2: records that are not the same have not the same bytes; the same have.
func TestBytesDiffer(t *testing.T) {
	of := map[string]api.Rec{}
	for _, g := range good() {
		s, _ := rec.Put(g)
		if other, ok := of[s]; ok {
			t.Errorf("%v and %v: %q", g, other, s)
		}
		of[s] = g
		if again, _ := rec.Put(g); again != s {
			t.Errorf("Put(%v): %q, then %q", g, s, again)
		}
	}
	if len(of) != len(good()) {
		t.Errorf("%d bytes of %d records", len(of), len(good()))
	}
}
