package frame_test

import (
	"encoding/binary"
	"hash/crc32"
	"math"
	"math/bits"
	"strings"
	"testing"

	"deckle/api"
	"deckle/frame"
)

const (
	maxInt, minInt = math.MaxInt, math.MinInt
	chunkBits      = 72
	noughts        = "\x00\x00\x00\x00"
)

// chunkOf answers eight bytes and their check, the places counted out as chapter 3 says them.
func chunkOf(s string) string {
	place, left, ones := 2, 0, 0
	for k := range 64 {
		place++
		for place&(place-1) == 0 {
			place++
		}
		if s[k/8]>>(k%8)&1 == 1 {
			left ^= place
			ones++
		}
	}
	if (ones+bits.OnesCount(uint(left)))%2 == 1 {
		left |= 0x80
	}
	return s + string([]byte{byte(left)})
}

// chunksOf answers s as chunks, each eight bytes as one.
func chunksOf(s string) string {
	r := ""
	for i := 0; i < len(s); i += 8 {
		r += chunkOf(s[i : i+8])
	}
	return r
}

// tagOf answers t's sixteen bytes, as chapter 4 says them.
func tagOf(t api.Tag) string {
	b := []byte{0x1b}
	for _, part := range []struct{ v, n int }{{t.Kind, 1}, {t.Lba, 2}, {t.Seq, 6}, {t.Epoch, 4}, {0, 2}} {
		for i := range part.n {
			b = append(b, byte(part.v>>(8*i)))
		}
	}
	return string(b)
}

func sumOf(s string) string {
	return string(binary.LittleEndian.AppendUint32(nil, crc32.ChecksumIEEE([]byte(s))))
}

// pageOf answers the chunks of any bytes in a tag's place and any data, with their right sum and four noughts.
func pageOf(head, data string) string {
	return chunksOf(head + data + sumOf(head+data) + noughts)
}

func flip(s string, ks ...int) string {
	b := []byte(s)
	for _, k := range ks {
		b[k/8] ^= 1 << (k % 8)
	}
	return string(b)
}

// noise answers n bytes of all values, the same ones each time.
func noise(n int, seed uint32) string {
	b := make([]byte, n)
	for i := range b {
		seed = seed*1664525 + 1013904223
		b[i] = byte(seed >> 24)
	}
	return string(b)
}

// sizes answers how many bytes of data a page may have.
func sizes() []int {
	var l []int
	for n := 8; n <= 256; n += 8 {
		l = append(l, n)
	}
	return l
}

func isSize(n int) bool { return n >= 8 && n <= 256 && n%8 == 0 }

func tags() []api.Tag {
	return []api.Tag{
		{Kind: api.KData},
		{Kind: api.KData, Lba: 258, Seq: 3, Epoch: 4},
		{Kind: api.KFill, Lba: 0x0a05, Seq: 0x161514131211, Epoch: 0x24232221},
		{Kind: api.KSnap, Lba: 17, Seq: 0, Epoch: 1},
		{Kind: api.KLog, Lba: api.MaxLbas, Seq: api.MaxSeq, Epoch: api.MaxEpoch},
	}
}

// badTags answers tags that may not be: one part of each is beyond what it may be.
func badTags() []api.Tag {
	return []api.Tag{
		{}, {Kind: 5}, {Kind: -1}, {Kind: maxInt},
		{Kind: 1, Lba: -1}, {Kind: 1, Lba: api.MaxLbas + 1}, {Kind: 1, Lba: minInt},
		{Kind: 1, Seq: -1}, {Kind: 1, Seq: api.MaxSeq + 1},
		{Kind: 1, Epoch: -1}, {Kind: 1, Epoch: api.MaxEpoch + 1},
	}
}

// contents answers data of n bytes.
func contents(n int) []string {
	return []string{strings.Repeat("\x00", n), strings.Repeat("\xff", n), strings.Repeat("\x1b", n), noise(n, uint32(n)), noise(n, 77)}
}

func wantPage(t *testing.T, s string, want api.Page) {
	t.Helper()
	if p := frame.Decode(s); p != want {
		t.Errorf("Decode(%q): %v, not %v", s, p, want)
	}
}

func wantBad(t *testing.T, s string) {
	t.Helper()
	wantPage(t, s, api.Page{What: api.PBad})
}

func wantErased(t *testing.T, s string) {
	t.Helper()
	wantPage(t, s, api.Page{What: api.PErased})
}

// Promise 5.1: pages written out, chunk by chunk.
func TestKnown(t *testing.T) {
	for _, c := range []struct {
		tag  api.Tag
		data string
		want string
	}{
		{api.Tag{Kind: 1, Lba: 258, Seq: 3, Epoch: 4}, "\x00\x00\x00\x00\x00\x00\x00\x00", "" +
			"\x1b\x01\x02\x01\x03\x00\x00\x00\x83" +
			"\x00\x00\x04\x00\x00\x00\x00\x00\x98" +
			"\x00\x00\x00\x00\x00\x00\x00\x00\x00" +
			"\x90\x42\x45\xca\x00\x00\x00\x00\xb3"},
		{api.Tag{Kind: 4, Lba: 4096, Seq: api.MaxSeq, Epoch: api.MaxEpoch}, "deckle: pages...", "" +
			"\x1b\x04\x00\x10\xff\xff\xff\xff\xc3" +
			"\xff\xff\xff\xff\xff\xff\x00\x00\x88" +
			"\x64\x65\x63\x6b\x6c\x65\x3a\x20\xfb" +
			"\x70\x61\x67\x65\x73\x2e\x2e\x2e\x82" +
			"\x19\x1f\xdc\xe4\x00\x00\x00\x00\x9e"},
	} {
		if s, e := frame.Encode(c.tag, c.data); s != c.want || e != api.OK {
			t.Errorf("Encode(%v, %q): %q, %d, not %q", c.tag, c.data, s, e, c.want)
		}
		wantPage(t, c.want, api.Page{What: api.PGood, Tag: c.tag, Data: c.data})
	}
}

// Promises 5.1 and 5.3: each size, with tags of each kind.
func TestThereAndBack(t *testing.T) {
	for _, n := range sizes() {
		for _, g := range tags() {
			for _, data := range contents(n) {
				s, e := frame.Encode(g, data)
				if s != pageOf(tagOf(g), data) || e != api.OK {
					t.Fatalf("Encode(%v, %q): %q, %d", g, data, s, e)
				}
				if len(s) != (n+24)/8*9 {
					t.Errorf("a page of %d bytes has %d", n, len(s))
				}
				wantPage(t, s, api.Page{What: api.PGood, Tag: g, Data: data})
			}
		}
	}
}

// Promise 5.1: data of a length that may not be, whether the tag may be or not.
func TestEncodeLong(t *testing.T) {
	for n := range 600 {
		if isSize(n) {
			continue
		}
		for _, g := range append(tags(), badTags()...) {
			if s, e := frame.Encode(g, noise(n, 5)); s != "" || e != api.ErrLong {
				t.Errorf("Encode(%v) of %d bytes: %q, %d", g, n, s, e)
			}
		}
	}
	if s, e := frame.Encode(api.Tag{Kind: 1}, strings.Repeat("x", 1<<16)); s != "" || e != api.ErrLong {
		t.Errorf("Encode of %d bytes: %q, %d", 1<<16, s, e)
	}
}

// Promise 5.1: a tag that may not be, beside data of each length that may.
func TestEncodeRange(t *testing.T) {
	for _, n := range sizes() {
		for _, g := range badTags() {
			if s, e := frame.Encode(g, noise(n, 6)); s != "" || e != api.ErrRange {
				t.Errorf("Encode(%v) of %d bytes: %q, %d", g, n, s, e)
			}
		}
	}
}

// Promise 5.1: bytes that are not four to 35 whole chunks, blank ones too.
func TestDecodeLength(t *testing.T) {
	for n := range 700 {
		whole := n%9 == 0 && n >= 36 && n <= 315
		if !whole {
			wantBad(t, strings.Repeat("\xff", n))
		} else {
			wantErased(t, strings.Repeat("\xff", n))
		}
		wantBad(t, strings.Repeat("\x00", n))
		wantBad(t, noise(n, 9))
	}
	wantBad(t, strings.Repeat("\xff", 9*7282))
}

// Promise 5.1: chunks that would be a page's, were there not too few or too many.
func TestDecodeChunks(t *testing.T) {
	g := api.Tag{Kind: api.KData, Lba: 1, Seq: 2, Epoch: 3}
	wantBad(t, pageOf(tagOf(g), ""))
	wantBad(t, pageOf(tagOf(g), noise(264, 1)))
	for _, n := range sizes() {
		s := pageOf(tagOf(g), noise(n, 2))
		wantBad(t, s[:len(s)-1])
		wantBad(t, s[1:])
		wantBad(t, s+"\x00")
		wantBad(t, s+"\xff")
		wantBad(t, s[:len(s)-9])
		wantBad(t, s[9:])
		wantBad(t, s+chunkOf("\x00\x00\x00\x00\x00\x00\x00\x00"))
		wantBad(t, s+s)
	}
}

// Promise 5.1: a blank page, also with one bit of each chunk that is 0; with two in one it is bad.
func TestDecodeBlank(t *testing.T) {
	for _, n := range sizes() {
		s := strings.Repeat("\xff", (n+24)/8*9)
		wantErased(t, s)
		each := s
		for c := range len(s) / 9 {
			each = flip(each, chunkBits*c+c*7%chunkBits)
		}
		wantErased(t, each)
		for c := range len(s) / 9 {
			k := chunkBits * c
			wantErased(t, flip(s, k+n%chunkBits))
			wantBad(t, flip(s, k, k+71))
			wantBad(t, flip(each, k+(c*7+1)%chunkBits))
			wantBad(t, flip(s, k, k+1, k+2))
		}
	}
}

// Promise 5.1: every one and every two bits that are 0 in each chunk of a short blank page.
func TestDecodeBlankTurned(t *testing.T) {
	s := strings.Repeat("\xff", 36)
	for i := range 8 * len(s) {
		wantErased(t, flip(s, i))
		for j := range i {
			if turned := flip(s, i, j); i/chunkBits == j/chunkBits {
				wantBad(t, turned)
			} else {
				wantErased(t, turned)
			}
		}
	}
}

// Promise 5.1: chunks that are all good, or put right, but in a tag's place have no tag's bytes.
func TestDecodeNoTag(t *testing.T) {
	g := tagOf(api.Tag{Kind: api.KData, Lba: 1, Seq: 2, Epoch: 3})
	for _, n := range []int{8, 16, 128, 256} {
		data := noise(n, 3)
		for _, head := range []string{
			strings.Repeat("\x00", 16), strings.Repeat("\xff", 16),
			"\x1c" + g[1:], "\x1b\x00" + g[2:], "\x1b\x05" + g[2:],
			g[:2] + "\x01\x10" + g[4:], g[:14] + "\x01\x00", g[:15] + "\x01",
		} {
			s := pageOf(head, data)
			wantBad(t, s)
			wantBad(t, flip(s, 5))
		}
		wantPage(t, pageOf(g, data), api.Page{What: api.PGood, Tag: api.Tag{Kind: 1, Lba: 1, Seq: 2, Epoch: 3}, Data: data})
	}
}

// Promise 5.1: chunks that are all good, or put right, but hold another sum, or not four noughts.
func TestDecodeNoSum(t *testing.T) {
	g := tagOf(api.Tag{Kind: api.KLog, Lba: 9, Seq: 8, Epoch: 7})
	for _, n := range []int{8, 16, 128, 256} {
		data := noise(n, 4)
		sum := sumOf(g + data)
		for k := range 32 {
			s := chunksOf(g + data + flip(sum, k) + noughts)
			wantBad(t, s)
			wantBad(t, flip(s, 71))
			wantBad(t, chunksOf(g+data+sum+flip(noughts, k)))
		}
		high := string([]byte{sum[3], sum[2], sum[1], sum[0]})
		wantBad(t, chunksOf(g+data+high+noughts))
		wantBad(t, chunksOf(g+data+sumOf(data)+noughts))
		wantBad(t, chunksOf(g+data+sumOf(g)+noughts))
		wantBad(t, chunksOf(g+data+sumOf(g+data+noughts)+noughts))
		wantBad(t, chunksOf(g+data+noughts+sum))
		wantBad(t, chunksOf(g+flip(data, 3)+sum+noughts))
		wantBad(t, chunksOf(flip(g, 100)+data+sum+noughts))
		wantBad(t, chunksOf(g+data+sum+"\xff\xff\xff\xff"))
	}
}

// Promises 5.1 and 5.3: each bit turned alone, and one bit in each chunk, or in some of them.
func TestOneTurnedInChunks(t *testing.T) {
	for i, n := range sizes() {
		g := tags()[i%len(tags())]
		data := noise(n, uint32(i))
		s := pageOf(tagOf(g), data)
		want := api.Page{What: api.PFixed, Tag: g, Data: data}
		for k := range 8 * len(s) {
			wantPage(t, flip(s, k), want)
		}
		for first := range chunkBits {
			each, some := s, s
			for c := range len(s) / 9 {
				k := chunkBits*c + (first+c*11)%chunkBits
				each = flip(each, k)
				if c%3 == first%3 {
					some = flip(some, k)
				}
			}
			wantPage(t, each, want)
			wantPage(t, some, want)
		}
	}
}

// Promises 5.1 and 5.3: two bits turned in one chunk, alone, and with one turned in each other one.
func TestTwoTurnedInAChunk(t *testing.T) {
	for i, n := range sizes() {
		s := pageOf(tagOf(tags()[i%len(tags())]), noise(n, uint32(i)))
		each := s
		for c := range len(s) / 9 {
			each = flip(each, chunkBits*c+c*5%chunkBits)
		}
		for c := range len(s) / 9 {
			for d := 1; d < chunkBits; d++ {
				first := chunkBits*c + c*5%chunkBits
				second := chunkBits*c + (c*5+d)%chunkBits
				wantBad(t, flip(s, first, second))
				wantBad(t, flip(each, second))
			}
		}
	}
}

// Promise 5.1: three bits, or four, of a chunk that come to other bytes, good or put right: the sum tells it.
func TestMoreTurnedInAChunk(t *testing.T) {
	for i, n := range sizes() {
		s := pageOf(tagOf(tags()[i%len(tags())]), noise(n, uint32(i)))
		for c := range len(s) / 9 {
			k := chunkBits * c
			// The places 3, 5, 9, which leave 15, and with that one nothing.
			wantBad(t, flip(s, k, k+1, k+4))
			wantBad(t, flip(s, k, k+1, k+4, k+10))
			// The places 3, 1 and 2: the byte is another one, told as put right.
			wantBad(t, flip(s, k, k+64, k+65))
		}
	}
}

// Promise 5.1: a page of which a chunk is blank, or of two pages' chunks, is bad.
func TestDecodeMixed(t *testing.T) {
	for _, n := range []int{8, 64, 256} {
		a := pageOf(tagOf(api.Tag{Kind: api.KData, Lba: 1, Seq: 2, Epoch: 3}), noise(n, 1))
		b := pageOf(tagOf(api.Tag{Kind: api.KData, Lba: 1, Seq: 3, Epoch: 4}), noise(n, 2))
		for c := 0; c < len(a); c += 9 {
			wantBad(t, a[:c]+strings.Repeat("\xff", 9)+a[c+9:])
			wantBad(t, a[:c]+b[c:c+9]+a[c+9:])
			blank := strings.Repeat("\xff", len(a))
			wantBad(t, blank[:c]+a[c:c+9]+blank[c+9:])
		}
	}
}

// Promise 5.1: a bad chunk that is laid into a page is not passed over, whatever chunks stand beside it.
func TestDecodeChunkLaidIn(t *testing.T) {
	for _, n := range []int{8, 64, 248} {
		s := pageOf(tagOf(api.Tag{Kind: api.KData, Lba: 1, Seq: 2, Epoch: 3}), noise(n, 1))
		for c := 0; c <= len(s); c += 9 {
			for _, laid := range []string{flip(chunkOf("deckle.."), 3, 50), flip(s[:9], 0, 71), strings.Repeat("\xff", 7) + "\x00\x00", chunkOf("deckle..")} {
				wantBad(t, s[:c]+laid+s[c:])
				wantBad(t, flip(s, 7)[:c]+laid+s[c:])
				wantBad(t, s[:c]+laid+flip(s, 8*len(s)-1)[c:])
			}
		}
	}
}

// Promise 5.1: any bytes: chunks of noise, and whole chunks that hold noise.
func TestDecodeAny(t *testing.T) {
	for _, n := range sizes() {
		for seed := range uint32(20) {
			wantBad(t, noise((n+24)/8*9, seed))
			wantBad(t, chunksOf(noise(n+24, seed)))
		}
	}
}

// Promise 5.2: each size, those that may not be, and those below 0.
func TestBlank(t *testing.T) {
	for n := -300; n < 600; n++ {
		want := ""
		if isSize(n) {
			want = strings.Repeat("\xff", (n+24)/8*9)
		}
		if s := frame.Blank(n); s != want {
			t.Errorf("Blank(%d): %q", n, s)
		}
	}
	for _, n := range []int{maxInt, maxInt - 7, minInt, minInt + 8, 1 << 32, 1<<32 + 8, -1 << 32} {
		if s := frame.Blank(n); s != "" {
			t.Errorf("Blank(%d): %d bytes", n, len(s))
		}
	}
}

// Promises 5.2 and 5.3: what is blank is as long as a page, is read as erased, and once it is hurt as bad.
func TestBlankRead(t *testing.T) {
	for _, n := range sizes() {
		s := frame.Blank(n)
		wantErased(t, s)
		if p, _ := frame.Encode(api.Tag{Kind: 1}, strings.Repeat("x", n)); len(p) != len(s) {
			t.Errorf("Blank(%d) has %d bytes, a page %d", n, len(s), len(p))
		}
		for a := range chunkBits {
			wantBad(t, frame.Hurt(s, a, a*31))
		}
	}
}

// restOf answers v's rest modulo n, from 0 on, by way of division down.
func restOf(v, n int) int {
	r := v % n
	if r < 0 {
		r += n
	}
	return r
}

func wantHurt(t *testing.T, s string, a, b int) {
	t.Helper()
	first := restOf(a, chunkBits)
	second := first
	for range restOf(b, 71) + 1 {
		second++
		if second > 71 {
			second = 0
		}
	}
	if r, want := frame.Hurt(s, a, b), flip(s, first, second); r != want {
		t.Errorf("Hurt(%q, %d, %d): %q, not %q", s, a, b, r, want)
	}
}

// Promise 5.2: numbers from 0 to 71, below, and beyond.
func TestHurt(t *testing.T) {
	s := noise(45, 8)
	for a := -160; a < 240; a++ {
		for b := -150; b < 230; b++ {
			wantHurt(t, s, a, b)
		}
	}
	far := []int{maxInt, maxInt - 1, maxInt - 71, minInt, minInt + 1, minInt + 72, 1 << 32, -1 << 32, 1<<31 - 1, 7200, -7200, 7100, -7100}
	for _, a := range far {
		for _, b := range far {
			wantHurt(t, s, a, b)
		}
		wantHurt(t, s, a, 0)
		wantHurt(t, s, 0, a)
	}
}

// Promise 5.2: some bits, told one by one.
func TestHurtKnown(t *testing.T) {
	none := strings.Repeat("\x00", 10)
	for _, c := range []struct{ a, b, first, second int }{
		{0, 0, 0, 1}, {0, 70, 0, 71}, {0, 71, 0, 1}, {71, 0, 71, 0}, {71, 70, 71, 70}, {72, 0, 0, 1},
		{-1, 0, 71, 0}, {0, -1, 0, 71}, {-1, -1, 71, 70}, {-72, -71, 0, 1}, {8, 72, 8, 10}, {70, 1, 70, 0},
	} {
		if s := frame.Hurt(none, c.a, c.b); s != flip(none, c.first, c.second) {
			t.Errorf("Hurt of noughts by %d, %d: %q, not the bits %d and %d", c.a, c.b, s, c.first, c.second)
		}
	}
}

// Promise 5.2: less than nine bytes stay as they are; more than a page's do not.
func TestHurtLength(t *testing.T) {
	for _, n := range []int{0, 1, 2, 3, 4, 5, 6, 7, 8, 9, 10, 35, 36, 37, 315, 316, 1000} {
		s := noise(n, 12)
		for _, ab := range [][2]int{{0, 0}, {-1, -1}, {71, 70}, {35, 35}, {minInt, maxInt}, {100, 100}} {
			if n >= 9 {
				wantHurt(t, s, ab[0], ab[1])
			} else if r := frame.Hurt(s, ab[0], ab[1]); r != s {
				t.Errorf("Hurt(%q, %d, %d): %q", s, ab[0], ab[1], r)
			}
		}
	}
}

// Promise 5.3: a page is bad once it is hurt, by all numbers; hurt again by the same it is as it was.
func TestHurtPage(t *testing.T) {
	g := api.Tag{Kind: api.KData, Lba: 258, Seq: 3, Epoch: 4}
	s := pageOf(tagOf(g), "deckle..")
	for a := range chunkBits {
		for b := range 71 {
			r := frame.Hurt(s, a, b)
			wantBad(t, r)
			if frame.Hurt(r, a, b) != s {
				t.Errorf("hurt twice by %d, %d: not as it was", a, b)
			}
		}
	}
}

// The chapter's example.
func TestExample(t *testing.T) {
	s, e := frame.Encode(api.Tag{Kind: api.KData, Lba: 3, Seq: 4, Epoch: 5}, "12345678")
	if len(s) != 36 || e != api.OK {
		t.Errorf("a page of 8 bytes has %d, %d", len(s), e)
	}
	wantErased(t, frame.Blank(8))
	wantBad(t, frame.Hurt(frame.Blank(8), 0, 0))
}
