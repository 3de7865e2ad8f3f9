package sheet_test

import (
	"iter"
	"math"
	"slices"
	"strings"
	"testing"

	"deckle/api"
	"deckle/rec"
	"deckle/sheet"
)

const maxInt, minInt = math.MaxInt, math.MinInt

// How many bytes the least page has, and the greatest, written out as the document says them.
const leastPage, mostPage = 16, 256

// told is what Each tells at once: a page's place, and a record.
type told struct {
	place int
	r     api.Rec
}

// holds counts out how many records of nine bytes have room behind the first byte of a page of n bytes.
func holds(n int) int {
	if n < leastPage || n > mostPage {
		return 0
	}
	k := 0
	for 1+9*(k+1) <= n {
		k++
	}
	return k
}

// recBytes answers the nine bytes of a record, divided out one by one.
func recBytes(r api.Rec) string {
	var b []byte
	for _, part := range []struct{ v, n int }{{r.Kind, 1}, {r.A, 2}, {r.B, 6}} {
		v := part.v
		for range part.n {
			b = append(b, byte(v%256))
			v /= 256
		}
	}
	return string(b)
}

// pageOf answers a page of n bytes with l on it, as the chapter says it.
func pageOf(l []api.Rec, n int) string {
	s := string([]byte{byte(len(l))})
	for _, r := range l {
		s += recBytes(r)
	}
	return s + strings.Repeat("\x00", n-len(s))
}

// pagesOf answers the pages of n bytes that hold l, each but the last one full.
func pagesOf(l []api.Rec, n int) []string {
	var pages []string
	var here []api.Rec
	for _, r := range l {
		if len(here) == holds(n) {
			pages = append(pages, pageOf(here, n))
			here = nil
		}
		here = append(here, r)
	}
	if len(here) > 0 {
		pages = append(pages, pageOf(here, n))
	}
	return pages
}

// some answers n records that may be, of all kinds; of some hundreds no two are the same.
func some(n int) []api.Rec {
	l := make([]api.Rec, n)
	for i := range l {
		l[i] = []api.Rec{
			{Kind: api.RTrim, A: i % 4097, B: 1<<48 - 1 - i},
			{Kind: api.RDelta, A: 4096 - i%4097, B: 0x010203040506 + i},
			{Kind: api.RCommit, A: i % 64, B: 1<<32 - 1 - i},
			{Kind: api.RErase, A: i / 4 % 64, B: 1 + i/256%2},
		}[i%4]
	}
	return l
}

// wrong answers records that may not be.
func wrong() []api.Rec {
	return []api.Rec{
		{}, {Kind: 5, A: 1, B: 1}, {Kind: -1}, {Kind: 257}, {Kind: api.RTrim, A: 4097}, {Kind: api.RDelta, A: -1},
		{Kind: api.RTrim, B: 1 << 48}, {Kind: api.RDelta, B: -1}, {Kind: api.RCommit, A: 3}, {Kind: api.RCommit, A: 64, B: 1},
		{Kind: api.RErase, A: 3, B: 3}, {Kind: api.RErase, A: 3}, {Kind: maxInt, A: maxInt, B: maxInt}, {Kind: minInt, A: minInt, B: minInt},
	}
}

// wrongBytes answers nine bytes that are no record's.
func wrongBytes() []string {
	return []string{
		strings.Repeat("\x00", 9), strings.Repeat("\xff", 9), "\x05\x01\x00\x01\x00\x00\x00\x00\x00", "\x00\x01\x00\x01\x00\x00\x00\x00\x00",
		"\x01\x01\x10\x00\x00\x00\x00\x00\x00", "\x03\x01\x00\x00\x00\x00\x00\x00\x00", "\x03\x40\x00\x01\x00\x00\x00\x00\x00",
		"\x03\x01\x00\x01\x00\x00\x00\x01\x00", "\x04\x01\x00\x03\x00\x00\x00\x00\x00",
	}
}

// noPages answers numbers of bytes of which there are no pages.
func noPages() []int {
	return []int{0, 1, 2, 9, 10, 14, 15, 257, 258, 264, 265, 272, 512, 4096, 65536 + 16, 1<<32 + 64, maxInt, -1, -9, -15, -16, -17, -64, -256, -257, -1<<32 + 64, minInt, minInt + 16}
}

// somePages answers numbers of bytes of which there are pages: the ends, those where one record more has just room, and one byte less.
func somePages() []int {
	return []int{16, 17, 18, 19, 20, 24, 27, 28, 29, 32, 36, 37, 38, 64, 72, 73, 74, 128, 135, 136, 244, 252, 253, 254, 255, 256}
}

// with answers s with its byte i another one.
func with(s string, i int, v byte) string {
	b := []byte(s)
	b[i] = v
	return string(b)
}

// collect answers all that is told.
func collect(each iter.Seq2[int, api.Rec]) []told {
	var l []told
	for i, r := range each {
		l = append(l, told{i, r})
	}
	return l
}

func wantPack(t *testing.T, l []api.Rec, n int) []string {
	t.Helper()
	pages, e := sheet.Pack(l, n)
	if e != api.OK || !slices.Equal(pages, pagesOf(l, n)) {
		t.Fatalf("Pack of %d records on pages of %d: %q, %d, not %q", len(l), n, pages, e, pagesOf(l, n))
	}
	return pages
}

func wantNoPack(t *testing.T, l []api.Rec, n int, code api.Code) {
	t.Helper()
	if pages, e := sheet.Pack(l, n); pages != nil || e != code {
		t.Errorf("Pack of %d records on pages of %d: %q, %d, not %d", len(l), n, pages, e, code)
	}
}

func wantUnpack(t *testing.T, page string, want []api.Rec) {
	t.Helper()
	if l, e := sheet.Unpack(page); e != api.OK || !slices.Equal(l, want) {
		t.Errorf("Unpack(%q): %v, %d, not %v", page, l, e, want)
	}
}

func wantNoUnpack(t *testing.T, page string, code api.Code) {
	t.Helper()
	if l, e := sheet.Unpack(page); l != nil || e != code {
		t.Errorf("Unpack(%q): %v, %d, not %d", page, l, e, code)
	}
}

// wantEach holds what is told to the end, twice, and broken off behind each record.
func wantEach(t *testing.T, pages []string, want []told) {
	t.Helper()
	given := append(slices.Clone(pages), "behind the end")[:len(pages)]
	each := sheet.Each(given)
	if each == nil {
		t.Fatalf("Each(%q): nil", pages)
	}
	for range 2 {
		if got := collect(each); !slices.Equal(got, want) {
			t.Errorf("Each(%q): %v, not %v", pages, got, want)
		}
	}
	for n := 1; n <= len(want); n++ {
		var got []told
		// Called by hand, so that a call behind the one that broke it off is seen.
		each(func(i int, r api.Rec) bool {
			got = append(got, told{i, r})
			return len(got) < n
		})
		if !slices.Equal(got, want[:n]) {
			t.Errorf("Each(%q), broken off after %d: %v, not %v", pages, n, got, want[:n])
		}
	}
	if got := collect(each); !slices.Equal(got, want) {
		t.Errorf("Each(%q), broken off, and taken again: %v, not %v", pages, got, want)
	}
	if !slices.Equal(given, pages) || given[:len(pages)+1][len(pages)] != "behind the end" {
		t.Errorf("Each(%q): changed to %q", pages, given)
	}
}

// toldOf answers what is told of lists of records that lie on pages, one list a page, the first of them at the place from.
func toldOf(from int, lists ...[]api.Rec) []told {
	var want []told
	for i, l := range lists {
		for _, r := range l {
			want = append(want, told{from + i, r})
		}
	}
	return want
}

// Promises 12.1 and 12.2: the errors' numbers are those that the chapter lists.
func TestCodes(t *testing.T) {
	if _, e := sheet.Pack(nil, 15); e != 2 {
		t.Error(e)
	}
	if _, e := sheet.Pack([]api.Rec{{}}, 16); e != 110 {
		t.Error(e)
	}
	if _, e := sheet.Unpack(""); e != 2 {
		t.Error(e)
	}
	if _, e := sheet.Unpack(strings.Repeat("\x00", 16)); e != 3 {
		t.Error(e)
	}
}

// Promise 12.1: numbers that are known: both ends, one below and one above, where one record more has just room, one byte less.
func TestHoldKnown(t *testing.T) {
	for _, c := range [][2]int{
		{16, 1}, {17, 1}, {18, 1}, {19, 2}, {24, 2}, {27, 2}, {28, 3}, {36, 3}, {37, 4}, {45, 4}, {46, 5}, {63, 6}, {64, 7}, {72, 7}, {73, 8},
		{127, 14}, {128, 14}, {135, 14}, {136, 15}, {243, 26}, {244, 27}, {252, 27}, {253, 28}, {254, 28}, {255, 28}, {256, 28},
		{15, 0}, {14, 0}, {10, 0}, {1, 0}, {0, 0}, {-1, 0}, {-16, 0}, {-64, 0}, {257, 0}, {262, 0}, {265, 0}, {maxInt, 0}, {minInt, 0},
	} {
		if k := sheet.Hold(c[0]); k != c[1] {
			t.Errorf("Hold(%d): %d, not %d", c[0], k, c[1])
		}
	}
}

// Promise 12.1: each number around and within the ends, against what is counted out.
func TestHold(t *testing.T) {
	for n := -600; n <= 70000; n++ {
		if k := sheet.Hold(n); k != holds(n) {
			t.Errorf("Hold(%d): %d, not %d", n, k, holds(n))
		}
	}
	for _, n := range noPages() {
		if k := sheet.Hold(n); k != 0 {
			t.Errorf("Hold(%d): %d", n, k)
		}
	}
}

// Promise 12.1: the chapter's example: a page of 24 bytes holds two records, three need two pages.
func TestExample(t *testing.T) {
	l := []api.Rec{{Kind: api.RTrim, A: 258, B: 3}, {Kind: api.RCommit, A: 7, B: 9}, {Kind: api.RErase, A: 5, B: 2}}
	if k := sheet.Hold(24); k != 2 {
		t.Errorf("Hold(24): %d", k)
	}
	const (
		first  = "\x02" + "\x01\x02\x01\x03\x00\x00\x00\x00\x00" + "\x03\x07\x00\x09\x00\x00\x00\x00\x00" + "\x00\x00\x00\x00\x00"
		second = "\x01" + "\x04\x05\x00\x02\x00\x00\x00\x00\x00" + "\x00\x00\x00\x00\x00\x00\x00\x00\x00\x00\x00\x00\x00\x00"
	)
	if pages, e := sheet.Pack(l, 24); e != api.OK || !slices.Equal(pages, []string{first, second}) {
		t.Errorf("Pack: %q, %d", pages, e)
	}
	wantUnpack(t, first, l[:2])
	wantUnpack(t, second, l[2:])
	wantEach(t, []string{first, second}, []told{{0, l[0]}, {0, l[1]}, {1, l[2]}})
}

// Promise 12.1: no record needs no page.
func TestPackNone(t *testing.T) {
	for n := leastPage; n <= mostPage; n++ {
		for _, l := range [][]api.Rec{nil, {}, some(3)[:0]} {
			if pages, e := sheet.Pack(l, n); len(pages) != 0 || e != api.OK {
				t.Errorf("Pack of none on pages of %d: %q, %d", n, pages, e)
			}
		}
	}
}

// Promise 12.1: pages of each size, with one record, just as many as they hold, one less, one more, and many.
func TestPack(t *testing.T) {
	for n := leastPage; n <= mostPage; n++ {
		k := holds(n)
		for _, many := range []int{1, 2, k - 1, k, k + 1, 2*k - 1, 2 * k, 2*k + 1, 5 * k, 5*k + 1, 100} {
			if many > 0 {
				wantPack(t, some(many), n)
			}
		}
	}
	for _, n := range []int{16, 24, 64, 253, 256} {
		wantPack(t, some(1000), n)
	}
}

// Promise 12.1: the pages byte by byte, apart from the model: how many, each page but the last one full, the records in order, noughts behind them.
func TestPackBytes(t *testing.T) {
	for _, n := range somePages() {
		k := holds(n)
		for _, many := range []int{1, k, k + 1, 3*k + 2} {
			l := some(many)
			pages, e := sheet.Pack(l, n)
			if e != api.OK || len(pages) != (many+k-1)/k {
				t.Fatalf("Pack of %d records on pages of %d: %d pages, %d", many, n, len(pages), e)
			}
			at := 0
			for i, page := range pages {
				here := k
				if i == len(pages)-1 {
					here = many - at
				}
				if len(page) != n || int(page[0]) != here {
					t.Fatalf("page %d of %d bytes: %q, not with %d records", i, n, page, here)
				}
				for j := range here {
					if s, _ := rec.Put(l[at]); page[1+9*j:10+9*j] != s {
						t.Errorf("page %d of %d bytes, record %d: %q, not %q", i, n, j, page[1+9*j:10+9*j], s)
					}
					at++
				}
				if behind := page[1+9*here:]; behind != strings.Repeat("\x00", n-1-9*here) {
					t.Errorf("page %d of %d bytes, behind its records: %q", i, n, behind)
				}
			}
		}
	}
}

// Promise 12.1: the same record, again and again, is packed as often as it is there.
func TestPackSame(t *testing.T) {
	r := api.Rec{Kind: api.RDelta, A: 9, B: 8}
	l := slices.Repeat([]api.Rec{r}, 7)
	pages := wantPack(t, l, 28)
	if !slices.Equal(pages, []string{pageOf(l[:3], 28), pageOf(l[:3], 28), pageOf(l[:1], 28)}) {
		t.Errorf("%q", pages)
	}
}

// Promise 12.1: pages that there are not, with records, with none, and with one that may not be, which is told later.
func TestPackNoPage(t *testing.T) {
	for _, n := range noPages() {
		wantNoPack(t, nil, n, api.ErrLong)
		wantNoPack(t, []api.Rec{}, n, api.ErrLong)
		wantNoPack(t, some(1), n, api.ErrLong)
		wantNoPack(t, some(40), n, api.ErrLong)
		for _, w := range wrong() {
			wantNoPack(t, []api.Rec{w}, n, api.ErrLong)
			wantNoPack(t, append(some(2), w), n, api.ErrLong)
		}
	}
}

// Promise 12.1: one record that may not be, in each place: its error, and no page.
func TestPackWrong(t *testing.T) {
	for _, n := range []int{16, 19, 24, 64, 253, 256} {
		for _, w := range wrong() {
			wantNoPack(t, []api.Rec{w}, n, api.ErrRec)
			wantNoPack(t, []api.Rec{w, w}, n, api.ErrRec)
			for _, many := range []int{2, 7, 30, 60} {
				for i := range many {
					l := some(many)
					l[i] = w
					_, first := rec.Put(w)
					wantNoPack(t, l, n, first)
				}
			}
		}
	}
}

// Rule R4: a list that is packed is neither changed nor read behind its end, nor does it hang on what was packed.
func TestPackOwn(t *testing.T) {
	whole := append(some(5), wrong()...)
	l := whole[:5]
	pages := wantPack(t, l, 24)
	if !slices.Equal(whole, append(some(5), wrong()...)) {
		t.Errorf("changed: %v", whole)
	}
	for i := range whole {
		whole[i] = api.Rec{Kind: 9, A: 9, B: 9}
	}
	if !slices.Equal(pages, pagesOf(some(5), 24)) {
		t.Errorf("hangs on what was packed: %q", pages)
	}
	again := wantPack(t, some(5), 24)
	full := pages[:cap(pages)]
	for i := range full {
		full[i] = "another"
	}
	if !slices.Equal(again, pagesOf(some(5), 24)) {
		t.Errorf("hangs on another answer: %q", again)
	}
}

// Promise 12.2: pages of each size, with each number of records that they hold.
func TestUnpack(t *testing.T) {
	for n := leastPage; n <= mostPage; n++ {
		for k := 1; k <= holds(n); k++ {
			wantUnpack(t, pageOf(some(k), n), some(k))
		}
	}
}

// Promise 12.2: texts of other than 16 to 256 bytes, also such that would be pages else.
func TestUnpackLength(t *testing.T) {
	for n := range 1100 {
		if holds(n) == 0 {
			wantNoUnpack(t, strings.Repeat("\x00", n), api.ErrLong)
			wantNoUnpack(t, strings.Repeat("\xff", n), api.ErrLong)
			wantNoUnpack(t, strings.Repeat("\x01", n), api.ErrLong)
		}
		if n > 9 && holds(n) == 0 {
			wantNoUnpack(t, pageOf(some(1), n), api.ErrLong)
		}
	}
	wantNoUnpack(t, "", api.ErrLong)
	wantNoUnpack(t, pageOf(some(28), 256)+"\x00", api.ErrLong)
}

// Promise 12.2: a page that tells no record, with noughts behind that, or with records.
func TestUnpackNone(t *testing.T) {
	for n := leastPage; n <= mostPage; n++ {
		wantNoUnpack(t, strings.Repeat("\x00", n), api.ErrForm)
		for k := 1; k <= holds(n); k++ {
			wantNoUnpack(t, with(pageOf(some(k), n), 0, 0), api.ErrForm)
		}
	}
}

// Promise 12.2: a full page, and one of one record, with each other number ahead of it.
func TestUnpackCounts(t *testing.T) {
	for n := leastPage; n <= mostPage; n++ {
		for _, k := range []int{1, holds(n)} {
			page := pageOf(some(k), n)
			for v := range 256 {
				if v != k {
					wantNoUnpack(t, with(page, 0, byte(v)), api.ErrForm)
				}
			}
		}
	}
	// Of a page that is all bytes of 1 each record may be, and so many as it holds leave none behind them, if it has just room for them.
	for _, n := range []int{19, 28, 64, 253} {
		page := "\x01" + strings.Repeat("\x01\x01\x01\x01\x01\x01\x01\x01\x01", holds(n))
		for v := range 256 {
			if v == holds(n) {
				wantUnpack(t, with(page, 0, byte(v)), slices.Repeat([]api.Rec{{Kind: 1, A: 0x0101, B: 0x010101010101}}, v))
			} else {
				wantNoUnpack(t, with(page, 0, byte(v)), api.ErrForm)
			}
		}
	}
}

// Promise 12.2: a byte behind the records that is no nought, in each place.
func TestUnpackBehind(t *testing.T) {
	for _, n := range somePages() {
		for k := 1; k <= holds(n); k++ {
			page := pageOf(some(k), n)
			for i := 1 + 9*k; i < n; i++ {
				for _, v := range []byte{1, 2, 32, 127, 128, 255} {
					wantNoUnpack(t, with(page, i, v), api.ErrForm)
				}
			}
		}
	}
	for v := 1; v < 256; v++ {
		page := pageOf(some(1), 32)
		wantNoUnpack(t, with(page, 10, byte(v)), api.ErrForm)
		wantNoUnpack(t, with(page, 31, byte(v)), api.ErrForm)
	}
}

// Promise 12.2: a record that is none, in each place.
func TestUnpackWrong(t *testing.T) {
	for _, n := range somePages() {
		for k := 1; k <= holds(n); k++ {
			for i := range k {
				for _, w := range wrongBytes() {
					page := pageOf(some(k), n)
					wantNoUnpack(t, page[:1+9*i]+w+page[10+9*i:], api.ErrForm)
				}
			}
		}
	}
}

// Promise 12.2: each single byte of a page another one: it is a page only where the model makes the same of the records it tells.
func TestUnpackBytes(t *testing.T) {
	for _, page := range []string{pageOf(some(1), 16), pageOf(some(2), 24), pageOf(some(4), 37), pageOf(some(3), 64)} {
		for i := range page {
			for v := range 256 {
				s := with(page, i, byte(v))
				l, e := sheet.Unpack(s)
				if want, ok := read(s); ok {
					wantUnpack(t, s, want)
				} else if l != nil || e != api.ErrForm {
					t.Errorf("Unpack(%q): %v, %d", s, l, e)
				}
			}
		}
	}
}

// read answers the records of a page, byte by byte as the chapter says them, and whether it is one.
func read(page string) ([]api.Rec, bool) {
	n := int(page[0])
	if n == 0 || 1+9*n > len(page) {
		return nil, false
	}
	var l []api.Rec
	for i := range n {
		r, e := rec.Take(page[1+9*i : 10+9*i])
		if e != api.OK {
			return nil, false
		}
		l = append(l, r)
	}
	for _, c := range []byte(page[1+9*n:]) {
		if c != 0 {
			return nil, false
		}
	}
	return l, true
}

// Rule R4: what Unpack answers is new memory, spare room too.
func TestUnpackOwn(t *testing.T) {
	page := pageOf(some(3), 64)
	a, _ := sheet.Unpack(page)
	b, _ := sheet.Unpack(page)
	full := a[:cap(a)]
	for i := range full {
		full[i] = api.Rec{Kind: 9, A: 9, B: 9}
	}
	if !slices.Equal(b, some(3)) {
		t.Errorf("hangs on another answer: %v", b)
	}
	wantUnpack(t, page, some(3))
}

// Promise 12.2: no pages, and whole ones.
func TestEach(t *testing.T) {
	wantEach(t, nil, nil)
	wantEach(t, []string{}, nil)
	for _, n := range somePages() {
		for k := 1; k <= holds(n); k++ {
			wantEach(t, []string{pageOf(some(k), n)}, toldOf(0, some(k)))
		}
	}
	l := some(40)
	for _, n := range []int{16, 24, 64, 256} {
		var lists [][]api.Rec
		for from := 0; from < len(l); from += holds(n) {
			lists = append(lists, l[from:min(from+holds(n), len(l))])
		}
		wantEach(t, pagesOf(l, n), toldOf(0, lists...))
	}
}

// Promise 12.2: pages of different sizes, those that are not full ahead of others, and the same page twice.
func TestEachSizes(t *testing.T) {
	l := some(60)
	lists := [][]api.Rec{l[:1], l[1:29], l[29:31], l[31:32], l[32:39], l[39:40], l[40:60]}
	var pages []string
	for i, n := range []int{16, 256, 24, 256, 64, 18, 255} {
		pages = append(pages, pageOf(lists[i], n))
	}
	wantEach(t, pages, toldOf(0, lists...))
	wantEach(t, []string{pages[2], pages[2]}, toldOf(0, lists[2], lists[2]))
}

// nones answers pages that are none, some of them with records ahead of what is wrong.
func nones() []string {
	page := pageOf(some(3), 64)
	return []string{
		"", page[:15], strings.Repeat("\x00", 64), strings.Repeat("\xff", 64), pageOf(some(28), 256) + "\x00",
		with(page, 0, 0), with(page, 0, 2), with(page, 0, 4), with(page, 0, 8), with(page, 0, 255), with(page, 1+27, 1), with(page, 63, 1),
		page[:1] + wrongBytes()[0] + page[10:], page[:10] + wrongBytes()[4] + page[19:], page[:19] + wrongBytes()[8] + page[28:],
	}
}

// Promise 12.2: a page that is none, in each place: what is ahead of it, nothing of it, and nothing behind it.
func TestEachNone(t *testing.T) {
	l := some(10)
	lists := [][]api.Rec{l[:2], l[2:3], l[3:7], l[7:10]}
	for _, none := range nones() {
		wantEach(t, []string{none}, nil)
		wantEach(t, []string{none, none}, nil)
		for at := range len(lists) + 1 {
			var pages []string
			for i, one := range lists {
				if i == at {
					pages = append(pages, none)
				}
				pages = append(pages, pageOf(one, 64))
			}
			if at == len(lists) {
				pages = append(pages, none)
			}
			wantEach(t, pages, toldOf(0, lists[:at]...))
		}
	}
}

// Promise 12.2: broken off by the language's own means, and ranged over twice at once.
func TestEachBrokenOff(t *testing.T) {
	l := some(5)
	each := sheet.Each(pagesOf(l, 24))
	for n := range len(l) {
		k := 0
		for i, r := range each {
			if r != l[k] || i != k/2 {
				t.Errorf("record %d: %d, %v", k, i, r)
			}
			if k == n {
				break
			}
			k++
		}
		if k != n {
			t.Errorf("broken off at %d, not %d", k, n)
		}
	}
	var outer, inner int
	for range each {
		outer++
		for range each {
			inner++
		}
	}
	if outer != 5 || inner != 25 {
		t.Errorf("%d, %d", outer, inner)
	}
}

// Rule R4: what is told hangs on the pages as they were when Each was called, and on nothing that is done later.
func TestEachOwn(t *testing.T) {
	l := some(5)
	pages := pagesOf(l, 24)
	each := sheet.Each(pages)
	want := toldOf(0, l[:2], l[2:4], l[4:])
	for i := range pages {
		pages[i] = "another"
	}
	if got := collect(each); !slices.Equal(got, want) {
		t.Errorf("hangs on what was handed in: %v", got)
	}
	copy(pages, pagesOf(l, 24))
	var got []told
	for i, r := range sheet.Each(pages) {
		got = append(got, told{i, r})
		clear(pages)
	}
	if !slices.Equal(got, want) {
		t.Errorf("hangs on what is changed meanwhile: %v", got)
	}
}

// Promise 12.3: what is packed is unpacked, and packed again it is the same.
func TestThereAndBack(t *testing.T) {
	for n := leastPage; n <= mostPage; n++ {
		for _, many := range []int{0, 1, holds(n) - 1, holds(n), holds(n) + 1, 3*holds(n) + 1} {
			l := some(many)
			pages := wantPack(t, l, n)
			var back []api.Rec
			for _, page := range pages {
				part, e := sheet.Unpack(page)
				if e != api.OK {
					t.Fatalf("Unpack(%q): %d", page, e)
				}
				if one, e := sheet.Pack(part, n); e != api.OK || !slices.Equal(one, []string{page}) {
					t.Errorf("Pack of what is read off %q: %q, %d", page, one, e)
				}
				back = append(back, part...)
			}
			if !slices.Equal(back, l) {
				t.Errorf("there and back, %d bytes: %v, not %v", n, back, l)
			}
			var seen []api.Rec
			for i, r := range sheet.Each(pages) {
				if i != len(seen)/holds(n) {
					t.Errorf("record %d of pages of %d: on page %d", len(seen), n, i)
				}
				seen = append(seen, r)
			}
			if !slices.Equal(seen, l) {
				t.Errorf("told back, %d bytes: %v, not %v", n, seen, l)
			}
		}
	}
}

// Promise 12.3: no fewer pages could hold the records.
func TestFewestPages(t *testing.T) {
	for n := leastPage; n <= mostPage; n++ {
		for many := range 70 {
			pages, e := sheet.Pack(some(many), n)
			if e != api.OK || len(pages)*holds(n) < many || (len(pages)-1)*holds(n) >= many {
				t.Errorf("%d records on pages of %d: %d pages, %d", many, n, len(pages), e)
			}
		}
	}
}

// Rule R7: the same is told again, also behind a call that was refused.
func TestAgain(t *testing.T) {
	for range 3 {
		wantPack(t, some(5), 24)
		wantNoPack(t, append(some(5), api.Rec{}), 24, api.ErrRec)
		wantNoPack(t, some(5), 257, api.ErrLong)
		wantUnpack(t, pageOf(some(2), 24), some(2))
		wantNoUnpack(t, strings.Repeat("\x00", 24), api.ErrForm)
	}
}
