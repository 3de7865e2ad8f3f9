package snap_test

import (
	"math"
	"slices"
	"strings"
	"testing"

	"deckle/api"
	"deckle/snap"
)

const maxInt, minInt = math.MaxInt, math.MinInt

// The greatest numbers, written out as the document says them.
const (
	mostSeq   = 281474976710655
	mostEpoch = 4294967295
	mostCount = 16777215
)

// example is the chapter's; Lines, Spare and Wear are not told.
var example = api.Geo{Blocks: 8, Lines: 6, Bytes: 64, Lbas: 4, Spare: 0, Wear: 2}

// geos answers geometries that may be: the fewest and the most blocks and sectors, the least and the greatest pages, with no byte behind the fields, with two, with many.
func geos() []api.Geo {
	return []api.Geo{
		example,
		{Blocks: 9, Lines: 10, Bytes: 64, Lbas: 20, Spare: 1, Wear: 4},
		{Blocks: 8, Lines: 6, Bytes: 48, Lbas: 1, Spare: 0, Wear: 2},
		{Blocks: 8, Lines: 64, Bytes: 16, Lbas: 146, Spare: 0, Wear: 1000},
		{Blocks: 8, Lines: 12, Bytes: 16, Lbas: 8, Spare: 0, Wear: 2},
		{Blocks: 8, Lines: 12, Bytes: 16, Lbas: 5, Spare: 0, Wear: 2},
		{Blocks: 8, Lines: 12, Bytes: 16, Lbas: 3, Spare: 0, Wear: 2},
		{Blocks: 8, Lines: 6, Bytes: 64, Lbas: 8, Spare: 0, Wear: 2},
		{Blocks: 8, Lines: 6, Bytes: 128, Lbas: 8, Spare: 0, Wear: 2},
		{Blocks: 8, Lines: 6, Bytes: 88, Lbas: 1, Spare: 0, Wear: 2},
		{Blocks: 8, Lines: 6, Bytes: 256, Lbas: 1, Spare: 0, Wear: 2},
		{Blocks: 24, Lines: 64, Bytes: 40, Lbas: 100, Spare: 16, Wear: 1000},
		{Blocks: 64, Lines: 50, Bytes: 24, Lbas: 77, Spare: 16, Wear: 3},
		{Blocks: 64, Lines: 64, Bytes: 256, Lbas: 64, Spare: 0, Wear: 2},
		{Blocks: 64, Lines: 64, Bytes: 256, Lbas: 2453, Spare: 16, Wear: 1000},
	}
}

// badGeos answers geometries that may not be.
func badGeos() []api.Geo {
	return []api.Geo{
		{}, {Blocks: 7, Lines: 6, Bytes: 64, Lbas: 4, Wear: 2}, {Blocks: 65, Lines: 20, Bytes: 256, Lbas: 4, Wear: 2},
		{Blocks: 8, Lines: 5, Bytes: 256, Lbas: 4, Wear: 2}, {Blocks: 8, Lines: 65, Bytes: 64, Lbas: 4, Wear: 2},
		{Blocks: 8, Lines: 64, Bytes: 8, Lbas: 4, Wear: 2}, {Blocks: 8, Lines: 6, Bytes: 60, Lbas: 4, Wear: 2},
		{Blocks: 8, Lines: 6, Bytes: 264, Lbas: 4, Wear: 2}, {Blocks: 8, Lines: 6, Bytes: 64, Lbas: 0, Wear: 2},
		{Blocks: 8, Lines: 6, Bytes: 64, Lbas: -1, Wear: 2}, {Blocks: 8, Lines: 6, Bytes: 256, Lbas: 19, Wear: 2},
		{Blocks: 8, Lines: 6, Bytes: 64, Lbas: 4, Spare: 1, Wear: 2}, {Blocks: 8, Lines: 6, Bytes: 64, Lbas: 4, Spare: -1, Wear: 2},
		{Blocks: 8, Lines: 6, Bytes: 64, Lbas: 4, Wear: 1}, {Blocks: 8, Lines: 6, Bytes: 64, Lbas: 4, Wear: 1001},
		{Blocks: 8, Lines: 6, Bytes: 48, Lbas: 4, Wear: 2}, {Blocks: 8, Lines: 6, Bytes: 64, Lbas: 9, Wear: 2}, {Blocks: maxInt, Lines: maxInt, Bytes: maxInt, Lbas: maxInt, Spare: maxInt, Wear: maxInt},
		{Blocks: minInt, Lines: minInt, Bytes: minInt, Lbas: minInt, Spare: minInt, Wear: minInt},
		{Blocks: 8, Lines: 6, Bytes: 64, Lbas: maxInt, Wear: 2}, {Blocks: 8, Lines: 6, Bytes: 64, Lbas: minInt, Wear: 2},
	}
}

// numbers answers n numbers below many, with different bytes, of which k tells.
func numbers(n, many, k int) []int {
	l := make([]int, n)
	for i := range l {
		l[i] = (k*0x0d0b0907050301 + i*0x0103050709 + 0x060504030201) % many
	}
	return l
}

// some answers what fits g; k tells which.
func some(g api.Geo, k int) api.State {
	return api.State{
		Floor: numbers(g.Lbas, mostSeq+1, k), Commit: numbers(g.Blocks, mostEpoch+1, k+1),
		Slc: numbers(g.Blocks, mostCount+1, k+2), Tlc: numbers(g.Blocks, mostCount+1, k+3),
	}
}

// all answers what is durable where all numbers are the same ones.
func all(g api.Geo, floor, commit, slc, tlc int) api.State {
	return api.State{
		Floor: slices.Repeat([]int{floor}, g.Lbas), Commit: slices.Repeat([]int{commit}, g.Blocks),
		Slc: slices.Repeat([]int{slc}, g.Blocks), Tlc: slices.Repeat([]int{tlc}, g.Blocks),
	}
}

// states answers several that fit g, the least and the greatest among them.
func states(g api.Geo) []api.State {
	return []api.State{some(g, 0), some(g, 5), all(g, 0, 0, 0, 0), all(g, mostSeq, mostEpoch, mostCount, mostCount), all(g, 1, 0, 2, 0)}
}

// list answers a place to put one of s's lists: Floor, Commit, Slc, Tlc.
func list(s *api.State, i int) *[]int { return []*[]int{&s.Floor, &s.Commit, &s.Slc, &s.Tlc}[i] }

const lists = 4

// most answers the greatest number of a list.
func most(i int) int { return []int{mostSeq, mostEpoch, mostCount, mostCount}[i] }

func clone(s api.State) api.State {
	return api.State{Floor: slices.Clone(s.Floor), Commit: slices.Clone(s.Commit), Slc: slices.Clone(s.Slc), Tlc: slices.Clone(s.Tlc)}
}

func isSame(a, b api.State) bool {
	for i := range lists {
		if !slices.Equal(*list(&a, i), *list(&b, i)) {
			return false
		}
	}
	return true
}

func isNone(s api.State) bool {
	return s.Floor == nil && s.Commit == nil && s.Slc == nil && s.Tlc == nil
}

// bytesOf answers the n bytes of v, divided out one by one.
func bytesOf(v, n int) string {
	var b []byte
	for range n {
		b = append(b, byte(v%256))
		v /= 256
	}
	return string(b)
}

// need answers how many bytes the fields of g have.
func need(g api.Geo) int { return 6*g.Lbas + 10*g.Blocks }

// pagesOf answers the pages of what fits g, as the chapter says them.
func pagesOf(g api.Geo, s api.State) []string {
	var fields strings.Builder
	for _, v := range s.Floor {
		fields.WriteString(bytesOf(v, 6))
	}
	for b := range g.Blocks {
		fields.WriteString(bytesOf(s.Commit[b], 4) + bytesOf(s.Slc[b], 3) + bytesOf(s.Tlc[b], 3))
	}
	left := fields.String()
	var pages []string
	for len(left) > g.Bytes {
		pages = append(pages, left[:g.Bytes])
		left = left[g.Bytes:]
	}
	return append(pages, left+strings.Repeat("\x00", g.Bytes-len(left)))
}

// with answers s with its byte i another one.
func with(s string, i int, v byte) string {
	b := []byte(s)
	b[i] = v
	return string(b)
}

// withPage answers pages with the one of the place i another one.
func withPage(pages []string, i int, page string) []string {
	l := slices.Clone(pages)
	l[i] = page
	return l
}

// places answers the first place of n, one in the midst, and the last one.
func places(n int) []int { return []int{0, n / 2, n - 1} }

func wantFits(t *testing.T, g api.Geo, s api.State, want bool) {
	t.Helper()
	if ok := snap.Fits(g, s); ok != want {
		t.Errorf("Fits(%+v, %v): %v", g, s, ok)
	}
}

func wantPut(t *testing.T, g api.Geo, s api.State) []string {
	t.Helper()
	wantFits(t, g, s, true)
	pages, e := snap.Put(g, s)
	if e != api.OK || !slices.Equal(pages, pagesOf(g, s)) {
		t.Fatalf("Put(%+v, %v): %q, %d, not %q", g, s, pages, e, pagesOf(g, s))
	}
	return pages
}

// wantNoPut holds that s is not put on pages of g, and does not fit it.
func wantNoPut(t *testing.T, g api.Geo, s api.State, code api.Code) {
	t.Helper()
	wantFits(t, g, s, false)
	if pages, e := snap.Put(g, s); pages != nil || e != code {
		t.Errorf("Put(%+v, %v): %q, %d, not %d", g, s, pages, e, code)
	}
}

func wantTake(t *testing.T, g api.Geo, pages []string, want api.State) {
	t.Helper()
	given := append(slices.Clone(pages), "behind the end")[:len(pages)]
	s, e := snap.Take(g, given)
	if e != api.OK || !isSame(s, want) {
		t.Errorf("Take(%+v, %q): %v, %d, not %v", g, pages, s, e, want)
	}
	if !slices.Equal(given, pages) || given[:len(pages)+1][len(pages)] != "behind the end" {
		t.Errorf("Take(%+v, %q): changed to %q", g, pages, given)
	}
}

func wantNoTake(t *testing.T, g api.Geo, pages []string, code api.Code) {
	t.Helper()
	if s, e := snap.Take(g, pages); !isNone(s) || e != code {
		t.Errorf("Take(%+v, %q): %v, %d, not %d", g, pages, s, e, code)
	}
}

// Promise 13.1: the errors' numbers are those that the chapter lists.
func TestCodes(t *testing.T) {
	if _, e := snap.Put(api.Geo{}, api.State{}); e != 60 {
		t.Error(e)
	}
	if _, e := snap.Put(example, api.State{}); e != 130 {
		t.Error(e)
	}
	if _, e := snap.Take(api.Geo{}, nil); e != 60 {
		t.Error(e)
	}
	if _, e := snap.Take(example, nil); e != 130 {
		t.Error(e)
	}
}

// Promise 13.1: the chapter's example: 24 and 80 bytes, two pages of 64.
func TestExample(t *testing.T) {
	s := api.State{
		Floor: []int{1, 0x0102, 0x010203040506, mostSeq}, Commit: []int{0x01020304, 0, 0, 5, 0, 0, 0, mostEpoch},
		Slc: []int{0x010203, 0, 0, 6, 7, 0, 0, 0}, Tlc: []int{0x0a0b0c, 0, 0, 0, 0x0102, 0, 0, mostCount},
	}
	const (
		floors = "\x01\x00\x00\x00\x00\x00" + "\x02\x01\x00\x00\x00\x00" + "\x06\x05\x04\x03\x02\x01" + "\xff\xff\xff\xff\xff\xff"
		none   = "\x00\x00\x00\x00" + "\x00\x00\x00" + "\x00\x00\x00"
		blocks = "\x04\x03\x02\x01" + "\x03\x02\x01" + "\x0c\x0b\x0a" + none + none +
			"\x05\x00\x00\x00" + "\x06\x00\x00" + "\x00\x00\x00" + "\x00\x00\x00\x00" + "\x07\x00\x00" + "\x02\x01\x00" +
			none + none + "\xff\xff\xff\xff" + "\x00\x00\x00" + "\xff\xff\xff"
	)
	whole := floors + blocks + strings.Repeat("\x00", 24)
	pages := []string{whole[:64], whole[64:]}
	if got, e := snap.Put(example, s); e != api.OK || !slices.Equal(got, pages) {
		t.Errorf("Put: %q, %d, not %q", got, e, pages)
	}
	wantTake(t, example, pages, s)
	wantPut(t, example, s)
}

// Promise 13.1: geometries that may not be: nothing fits them, is put, or taken.
func TestNoGeo(t *testing.T) {
	ok := some(example, 0)
	pages := pagesOf(example, ok)
	for _, g := range badGeos() {
		for _, s := range []api.State{{}, ok, all(example, -1, -1, -1, -1), {Floor: ok.Floor}} {
			wantNoPut(t, g, s, api.ErrGeo)
		}
		for _, l := range [][]string{nil, {}, pages, pages[:1], {""}, {"x", "", strings.Repeat("\x00", 64)}} {
			wantNoTake(t, g, l, api.ErrGeo)
		}
	}
	// So far off by a single number, with all else as it must be.
	for _, g := range []api.Geo{
		{Blocks: 8, Lines: 6, Bytes: 64, Lbas: 4, Spare: 1, Wear: 2}, {Blocks: 8, Lines: 6, Bytes: 64, Lbas: 4, Wear: 1}, {Blocks: 8, Lines: 5, Bytes: 64, Lbas: 4, Wear: 2},
	} {
		wantNoPut(t, g, ok, api.ErrGeo)
		wantNoTake(t, g, pages, api.ErrGeo)
	}
}

// Promise 13.1: what fits: how many pages there are, of how many bytes, and each of these.
func TestPut(t *testing.T) {
	for _, g := range geos() {
		for _, s := range states(g) {
			wantPut(t, g, s)
		}
	}
}

// Promise 13.1: the pages, apart from the model: their number and size, each field at its place, noughts behind.
func TestPutFields(t *testing.T) {
	for _, g := range geos() {
		s := some(g, 3)
		pages, e := snap.Put(g, s)
		if e != api.OK || len(pages) != (need(g)+g.Bytes-1)/g.Bytes {
			t.Fatalf("Put(%+v): %d pages, %d", g, len(pages), e)
		}
		for i, page := range pages {
			if len(page) != g.Bytes {
				t.Errorf("page %d of %+v: %d bytes", i, g, len(page))
			}
		}
		whole := strings.Join(pages, "")
		for i, v := range s.Floor {
			wantField(t, whole[6*i:6*i+6], v)
		}
		for b := range g.Blocks {
			at := 6*g.Lbas + 10*b
			wantField(t, whole[at:at+4], s.Commit[b])
			wantField(t, whole[at+4:at+7], s.Slc[b])
			wantField(t, whole[at+7:at+10], s.Tlc[b])
		}
		for i := need(g); i < len(whole); i++ {
			if whole[i] != 0 {
				t.Errorf("byte %d of %+v: %d", i, g, whole[i])
			}
		}
	}
}

// wantField holds that the bytes come to v.
func wantField(t *testing.T, bytes string, v int) {
	t.Helper()
	n := 0
	for i := len(bytes) - 1; i >= 0; i-- {
		n = n*256 + int(bytes[i])
	}
	if n != v {
		t.Errorf("%q: %d, not %d", bytes, n, v)
	}
}

// Promise 13.1: fields that lie on two pages, cut at each of their bytes.
func TestPutTwoPages(t *testing.T) {
	cuts := map[[2]int]int{}
	for lbas := 1; lbas <= 40; lbas++ {
		for _, size := range []int{16, 24, 32, 40, 64} {
			g := api.Geo{Blocks: 9, Lines: 64, Bytes: size, Lbas: lbas, Wear: 2}
			s := some(g, lbas)
			wantTake(t, g, wantPut(t, g, s), s)
			for at := size; at < need(g); at += size {
				if at < 6*lbas {
					cuts[[2]int{6, at % 6}]++
				} else {
					cuts[[2]int{10, (at - 6*lbas) % 10}]++
				}
			}
		}
	}
	// All numbers of bytes are even ones, so no cut falls on an odd place.
	for _, at := range [][2]int{{6, 0}, {6, 2}, {6, 4}, {10, 0}, {10, 2}, {10, 4}, {10, 6}, {10, 8}} {
		if cuts[at] == 0 {
			t.Errorf("no cut at %v", at)
		}
	}
}

// Promise 13.1: one number fewer, one more, none at all, in each list, and all at once.
func TestNumbersOff(t *testing.T) {
	for _, g := range geos() {
		ok := some(g, 1)
		wantNoPut(t, g, api.State{}, api.ErrSnap)
		for i := range lists {
			l := *list(&ok, i)
			for _, other := range [][]int{nil, {}, l[:len(l)-1], append(slices.Clone(l), 0), append(slices.Clone(l), l...)} {
				s := clone(ok)
				*list(&s, i) = other
				wantNoPut(t, g, s, api.ErrSnap)
			}
			var alone api.State
			*list(&alone, i) = l
			wantNoPut(t, g, alone, api.ErrSnap)
		}
		wantFits(t, g, ok, true)
	}
	// What fits another geometry: one sector, or one block, fewer or more.
	for _, g := range []api.Geo{
		{Blocks: 8, Lines: 6, Bytes: 64, Lbas: 3, Wear: 2}, {Blocks: 8, Lines: 6, Bytes: 64, Lbas: 5, Wear: 2}, {Blocks: 9, Lines: 6, Bytes: 64, Lbas: 4, Wear: 2},
	} {
		wantPut(t, g, some(g, 0))
		wantNoPut(t, example, some(g, 0), api.ErrSnap)
		wantNoPut(t, g, some(example, 0), api.ErrSnap)
	}
}

// Promise 13.1: as many numbers as there must be, told the wrong way round: as many floors as blocks, and the others as sectors.
func TestNumbersSwapped(t *testing.T) {
	for _, g := range geos() {
		if g.Blocks == g.Lbas {
			continue
		}
		s := all(g, 1, 1, 1, 1)
		wantNoPut(t, g, api.State{Floor: s.Commit, Commit: s.Floor, Slc: s.Floor, Tlc: s.Floor}, api.ErrSnap)
		wantNoPut(t, g, api.State{Floor: s.Floor, Commit: s.Floor, Slc: s.Slc, Tlc: s.Tlc}, api.ErrSnap)
		wantNoPut(t, g, api.State{Floor: s.Commit, Commit: s.Commit, Slc: s.Slc, Tlc: s.Tlc}, api.ErrSnap)
	}
}

// Promise 13.1: the least and the greatest number, and those beyond, in each list, at each place.
func TestNumberEnds(t *testing.T) {
	for _, g := range geos() {
		for i := range lists {
			ok := some(g, 2)
			for _, at := range places(len(*list(&ok, i))) {
				for _, v := range []int{0, 1, most(i) - 1, most(i)} {
					s := clone(ok)
					(*list(&s, i))[at] = v
					wantPut(t, g, s)
				}
				for _, v := range []int{-1, minInt, minInt + 1, -most(i), -most(i) - 1, most(i) + 1, most(i) + 2, 2 * (most(i) + 1), maxInt, mostSeq + 1} {
					s := clone(ok)
					(*list(&s, i))[at] = v
					wantNoPut(t, g, s, api.ErrSnap)
				}
			}
		}
	}
}

// Promise 13.1: a number that may not be, at each place of a small geometry.
func TestNumberEach(t *testing.T) {
	for i := range lists {
		ok := some(example, 2)
		for at := range *list(&ok, i) {
			for _, v := range []int{-1, most(i) + 1} {
				s := clone(ok)
				(*list(&s, i))[at] = v
				wantNoPut(t, example, s, api.ErrSnap)
			}
			s := clone(ok)
			(*list(&s, i))[at] = most(i)
			wantPut(t, example, s)
		}
	}
}

// Promise 13.1: pages of what is durable.
func TestTake(t *testing.T) {
	for _, g := range geos() {
		for _, s := range states(g) {
			wantTake(t, g, pagesOf(g, s), s)
		}
	}
}

// Promise 13.1: numbers that are the greatest their bytes can say are taken as they are, beside noughts, too.
func TestTakeGreatest(t *testing.T) {
	for _, g := range geos() {
		whole := strings.Repeat("\xff", need(g))
		whole += strings.Repeat("\x00", len(pagesOf(g, some(g, 0)))*g.Bytes-len(whole))
		var pages []string
		for from := 0; from < len(whole); from += g.Bytes {
			pages = append(pages, whole[from:from+g.Bytes])
		}
		wantTake(t, g, pages, all(g, mostSeq, mostEpoch, mostCount, mostCount))
	}
	for i := range lists {
		s := all(example, 0, 0, 0, 0)
		l := *list(&s, i)
		for at := range l {
			l[at] = most(i)
		}
		wantTake(t, example, pagesOf(example, s), s)
	}
}

// Promise 13.1: one page fewer, one more, none, also such that are all noughts.
func TestTakePages(t *testing.T) {
	for _, g := range geos() {
		for _, s := range states(g) {
			pages := pagesOf(g, s)
			nought := strings.Repeat("\x00", g.Bytes)
			wantNoTake(t, g, nil, api.ErrSnap)
			wantNoTake(t, g, []string{}, api.ErrSnap)
			wantNoTake(t, g, pages[:len(pages)-1], api.ErrSnap)
			wantNoTake(t, g, pages[1:], api.ErrSnap)
			for _, page := range []string{nought, "", pages[0], pages[len(pages)-1], nought[1:], "\x00"} {
				wantNoTake(t, g, append(slices.Clone(pages), page), api.ErrSnap)
				wantNoTake(t, g, slices.Insert(slices.Clone(pages), 0, page), api.ErrSnap)
			}
			wantNoTake(t, g, append(slices.Clone(pages), nought, nought), api.ErrSnap)
			wantNoTake(t, g, append(slices.Clone(pages), pages...), api.ErrSnap)
			wantNoTake(t, g, []string{strings.Join(pages, "") + nought}, api.ErrSnap)
			if len(pages) > 1 {
				wantNoTake(t, g, []string{strings.Join(pages, "")}, api.ErrSnap)
			}
		}
	}
}

// Promise 13.1: a page of one byte fewer or more, an empty one, and one that is too long, at each place; what is missing may stand on the next one.
func TestTakeSizes(t *testing.T) {
	for _, g := range geos() {
		for _, s := range states(g) {
			pages := pagesOf(g, s)
			for _, i := range places(len(pages)) {
				p := pages[i]
				for _, page := range []string{"", p[1:], p[:len(p)-1], p[:len(p)/2], p + "\x00", "\x00" + p, p + "x", p + p, p + strings.Repeat("\x00", 512), p[:1]} {
					wantNoTake(t, g, withPage(pages, i, page), api.ErrSnap)
				}
				if next := i + 1; next < len(pages) {
					moved := withPage(withPage(pages, i, p[:len(p)-1]), next, p[len(p)-1:]+pages[next])
					wantNoTake(t, g, moved, api.ErrSnap)
					moved = withPage(withPage(pages, i, p+pages[next][:1]), next, pages[next][1:])
					wantNoTake(t, g, moved, api.ErrSnap)
					wantNoTake(t, g, withPage(withPage(pages, i, p+pages[next]), next, ""), api.ErrSnap)
				}
			}
		}
	}
}

// Promise 13.1: a byte behind the fields that is no nought, at each place, and no such byte where there is none behind them.
func TestTakeBehind(t *testing.T) {
	exact := 0
	for _, g := range geos() {
		pages := pagesOf(g, some(g, 4))
		last := len(pages) - 1
		used := need(g) - last*g.Bytes
		if used == g.Bytes {
			exact++
		}
		for i := used; i < g.Bytes; i++ {
			for _, v := range []byte{1, 2, 32, 127, 128, 255} {
				wantNoTake(t, g, withPage(pages, last, with(pages[last], i, v)), api.ErrSnap)
			}
		}
		if used < g.Bytes {
			for v := 1; v < 256; v++ {
				wantNoTake(t, g, withPage(pages, last, with(pages[last], used, byte(v))), api.ErrSnap)
				wantNoTake(t, g, withPage(pages, last, with(pages[last], g.Bytes-1, byte(v))), api.ErrSnap)
			}
		}
		// The last byte ahead of them is a field's.
		s := some(g, 4)
		for _, v := range []int{0, 1, 128, 255} {
			s.Tlc[g.Blocks-1] = v*65536 + s.Tlc[g.Blocks-1]%65536
			wantTake(t, g, withPage(pages, last, with(pages[last], used-1, byte(v))), s)
		}
	}
	if exact < 4 {
		t.Errorf("%d geometries without a byte behind the fields", exact)
	}
}

// Promise 13.1: each byte of the pages of a small geometry another one: it is a field's, and changes one number, or it is behind them.
func TestTakeBytes(t *testing.T) {
	for _, g := range []api.Geo{example, {Blocks: 8, Lines: 12, Bytes: 16, Lbas: 5, Spare: 0, Wear: 2}} {
		ok := some(g, 6)
		pages := pagesOf(g, ok)
		for i := range len(pages) * g.Bytes {
			page, at := i/g.Bytes, i%g.Bytes
			for _, v := range []byte{0, 1, 127, 128, 255} {
				if pages[page][at] == v {
					continue
				}
				turned := withPage(pages, page, with(pages[page], at, v))
				if i >= need(g) {
					wantNoTake(t, g, turned, api.ErrSnap)
					continue
				}
				s, e := snap.Take(g, turned)
				if e != api.OK || differ(s, ok) != 1 || !slices.Equal(pagesOf(g, s), turned) {
					t.Errorf("byte %d, %d: %v, %d", i, v, s, e)
				}
			}
		}
	}
}

// differ answers in how many numbers a and b differ, which have as many.
func differ(a, b api.State) int {
	n := 0
	for i := range lists {
		for at, v := range *list(&a, i) {
			if v != (*list(&b, i))[at] {
				n++
			}
		}
	}
	return n
}

// Promise 13.2: what is put is taken, and what is taken is put again, the same.
func TestThereAndBack(t *testing.T) {
	for _, g := range geos() {
		for _, s := range states(g) {
			pages := wantPut(t, g, s)
			wantTake(t, g, pages, s)
			back, e := snap.Take(g, pages)
			if e != api.OK || !snap.Fits(g, back) {
				t.Fatalf("Take(%+v): %d", g, e)
			}
			if again := wantPut(t, g, back); !slices.Equal(again, pages) {
				t.Errorf("%+v: %q, not %q", g, again, pages)
			}
		}
	}
}

// Promise 13.2: any pages that are taken are put as they were.
func TestBackAndThere(t *testing.T) {
	for _, g := range geos() {
		for k := range 256 {
			pages := pagesOf(g, some(g, 0))
			for i := range pages {
				room := min(g.Bytes, need(g)-i*g.Bytes)
				pages[i] = strings.Repeat(string([]byte{byte(k)}), room) + strings.Repeat("\x00", g.Bytes-room)
			}
			s, e := snap.Take(g, pages)
			if e != api.OK {
				t.Fatalf("Take(%+v) of bytes %d: %d", g, k, e)
			}
			if again, e := snap.Put(g, s); e != api.OK || !slices.Equal(again, pages) {
				t.Errorf("%+v, bytes %d: %q, %d", g, k, again, e)
			}
		}
	}
}

// Promise 13.2: two that differ in one number have different pages.
func TestOneNumber(t *testing.T) {
	for _, g := range geos() {
		for i := range lists {
			ok := some(g, 7)
			pages := wantPut(t, g, ok)
			for _, at := range places(len(*list(&ok, i))) {
				for _, v := range []int{0, most(i), (*list(&ok, i))[at] ^ 1, (*list(&ok, i))[at] ^ (most(i)/2 + 1)} {
					s := clone(ok)
					(*list(&s, i))[at] = v
					other := wantPut(t, g, s)
					if v != (*list(&ok, i))[at] && slices.Equal(other, pages) {
						t.Errorf("%+v: the same pages with number %d of list %d being %d", g, at, i, v)
					}
				}
			}
		}
	}
}

// Rule R4: what is put is neither changed nor read behind its end, nor do the pages hang on it.
func TestPutOwn(t *testing.T) {
	ok := some(example, 1)
	s := clone(ok)
	for i := range lists {
		l := list(&s, i)
		*l = append(*l, -7, -8)[:len(*l)]
	}
	pages := wantPut(t, example, s)
	for i := range lists {
		l := *list(&s, i)
		if !slices.Equal(l, *list(&ok, i)) || !slices.Equal(l[len(l):len(l)+2], []int{-7, -8}) {
			t.Errorf("list %d: changed to %v", i, l[:len(l)+2])
		}
		for at := range l {
			l[at] = 9
		}
	}
	if !slices.Equal(pages, pagesOf(example, ok)) {
		t.Errorf("hangs on what was put: %q", pages)
	}
	again := wantPut(t, example, ok)
	full := pages[:cap(pages)]
	for i := range full {
		full[i] = "another"
	}
	if !slices.Equal(again, pagesOf(example, ok)) {
		t.Errorf("hangs on another answer: %q", again)
	}
	wantPut(t, example, ok)
}

// Rule R4: what is taken is new memory, each list of its own, spare room too, and does not hang on the pages.
func TestTakeOwn(t *testing.T) {
	ok := some(example, 1)
	for i := range lists {
		pages := pagesOf(example, ok)
		s, _ := snap.Take(example, pages)
		other, _ := snap.Take(example, pages)
		for at := range pages {
			pages[at] = "another"
		}
		l := *list(&s, i)
		full := l[:cap(l)]
		for at := range full {
			full[at] = -9
		}
		*list(&s, i) = slices.Clone(*list(&ok, i))
		if !isSame(s, ok) {
			t.Errorf("list %d hangs together with another one: %v", i, s)
		}
		if !isSame(other, ok) {
			t.Errorf("list %d hangs on another answer: %v", i, other)
		}
		wantTake(t, example, pagesOf(example, ok), ok)
	}
}

// Rule R7: the same is told again, also behind a call that was refused.
func TestAgain(t *testing.T) {
	s := some(example, 1)
	for range 3 {
		pages := wantPut(t, example, s)
		wantTake(t, example, pages, s)
		wantNoTake(t, example, pages[:1], api.ErrSnap)
		wantNoPut(t, example, api.State{}, api.ErrSnap)
		wantNoPut(t, api.Geo{}, s, api.ErrGeo)
	}
}
