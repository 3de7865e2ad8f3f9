package geom_test

import (
	"math"
	"testing"

	"deckle/api"
	"deckle/geom"
)

const maxInt, minInt = math.MaxInt, math.MinInt

// example is the chapter's, whose Wear is not told.
var example = api.Geo{Blocks: 9, Lines: 10, Bytes: 64, Lbas: 20, Spare: 1, Wear: 4}

// The least of all numbers at once, and greatest ones that go together.
var (
	least    = api.Geo{Blocks: 8, Lines: 6, Bytes: 48, Lbas: 1, Spare: 0, Wear: 2}
	greatest = api.Geo{Blocks: 64, Lines: 64, Bytes: 256, Lbas: 2453, Spare: 16, Wear: 1000}
)

// far are numbers at which sums and products wrap round, and those that are next to what may be.
func far() []int {
	return []int{minInt, minInt + 1, minInt + 7, minInt / 2, -1 << 32, -8, -1, maxInt - 7, maxInt - 1, maxInt, maxInt / 3, 1 << 32, 1<<32 + 8, 1<<32 + 16, 1<<61 + 16, 1<<62 + 64}
}

// field answers a place to put one of g's numbers: Blocks, Lines, Bytes, Lbas, Spare, Wear.
func field(g *api.Geo, i int) *int {
	return []*int{&g.Blocks, &g.Lines, &g.Bytes, &g.Lbas, &g.Spare, &g.Wear}[i]
}

const fields = 6

// with answers g with its number i another one.
func with(g api.Geo, i, v int) api.Geo {
	*field(&g, i) = v
	return g
}

// mostOf answers the most sectors: the pages of the blocks that count for it, two for one.
func mostOf(g api.Geo) int {
	pages := 0
	for range g.Blocks - g.Spare - 6 {
		pages += g.Lines + g.Lines + g.Lines
	}
	return pages >> 1
}

// needOf answers how many bytes the snapshot has.
func needOf(g api.Geo) int {
	n := 0
	for range g.Lbas {
		n += 6
	}
	for range g.Blocks {
		n += 10
	}
	return n
}

// snapsOf answers the pages of the snapshot, taken off one by one.
func snapsOf(g api.Geo) int {
	n := 0
	for left := needOf(g); left > 0; left -= g.Bytes {
		n++
	}
	return n
}

// may answers whether g may be, as the chapter says it, one by one.
func may(g api.Geo) bool {
	if g.Blocks < 8 || g.Blocks > 64 || g.Lines < 6 || g.Lines > 64 || g.Wear < 2 || g.Wear > 1000 {
		return false
	}
	if g.Bytes < 16 || g.Bytes > 256 || g.Bytes/8*8 != g.Bytes {
		return false
	}
	if g.Spare < 0 || g.Spare > 16 || g.Spare+8 > g.Blocks || g.Lbas < 1 || g.Lbas > 4096 {
		return false
	}
	return g.Lbas <= mostOf(g) && snapsOf(g)+4 <= g.Lines
}

func wantCheck(t *testing.T, g api.Geo, ok bool) {
	t.Helper()
	want := api.OK
	if !ok {
		want = api.ErrGeo
	}
	if e := geom.Check(g); e != want {
		t.Errorf("Check(%+v): %d, not %d", g, int(e), int(want))
	}
}

// wantRefused holds that no page of g has a number.
func wantRefused(t *testing.T, g api.Geo, a api.Addr, n int, want api.Code) {
	t.Helper()
	if r, e := geom.Number(g, a); r != 0 || e != want {
		t.Errorf("Number(%+v, %+v): %d, %d, not %d", g, a, r, int(e), int(want))
	}
	if r, e := geom.At(g, n); r != (api.Addr{}) || e != want {
		t.Errorf("At(%+v, %d): %+v, %d, not %d", g, n, r, int(e), int(want))
	}
}

// some answers geometries that may be: all blocks, lines and spare ones, and of sectors the least, and the most.
func some() []api.Geo {
	var l []api.Geo
	for blocks := 8; blocks <= 64; blocks++ {
		for lines := 6; lines <= 64; lines++ {
			for spare := 0; spare <= 16; spare += 4 {
				for _, bytes := range []int{16, 104, 256} {
					g := api.Geo{Blocks: blocks, Lines: lines, Bytes: bytes, Lbas: 1, Spare: spare, Wear: 2 + blocks*lines%999}
					room := ((lines-4)*bytes - 10*blocks) / 6
					full := with(g, 3, min(mostOf(g), room))
					for _, x := range []api.Geo{g, full} {
						if may(x) {
							l = append(l, x)
						}
					}
				}
			}
		}
	}
	return l
}

// Promise 6.1: each number at its least and its greatest, one below and one beyond, where nothing else forbids it.
func TestCheckEdges(t *testing.T) {
	for _, c := range []struct {
		g  api.Geo
		ok bool
	}{
		{example, true}, {least, true}, {greatest, true}, {api.Geo{}, false},
		{api.Geo{Blocks: -1, Lines: -1, Bytes: -8, Lbas: -1, Spare: -1, Wear: -1}, false},
		{with(least, 0, 7), false}, {with(with(least, 0, 7), 4, -1), false},
		{with(greatest, 0, 64), true}, {with(with(greatest, 3, 1), 0, 65), false},
		{with(with(least, 2, 256), 1, 5), false}, {with(greatest, 1, 65), false},
		{with(with(greatest, 3, 1), 2, 8), false}, {with(with(greatest, 3, 1), 2, 16), true}, {with(with(greatest, 3, 1), 2, 0), false},
		{with(greatest, 2, 264), false}, {with(greatest, 2, 255), false}, {with(greatest, 2, 257), false},
		{with(greatest, 4, 17), false}, {with(greatest, 4, -1), false}, {with(greatest, 4, 0), true},
		{with(least, 4, 1), false}, {with(with(least, 2, 256), 4, -1), false},
		{api.Geo{Blocks: 23, Lines: 20, Bytes: 256, Lbas: 9, Spare: 15, Wear: 2}, true},
		{api.Geo{Blocks: 23, Lines: 20, Bytes: 256, Lbas: 9, Spare: 16, Wear: 2}, false},
		{api.Geo{Blocks: 24, Lines: 20, Bytes: 256, Lbas: 9, Spare: 16, Wear: 2}, true},
		{api.Geo{Blocks: 25, Lines: 20, Bytes: 256, Lbas: 9, Spare: 17, Wear: 2}, false},
		{with(example, 5, 1), false}, {with(example, 5, 2), true}, {with(example, 5, 1000), true}, {with(example, 5, 1001), false}, {with(example, 5, 0), false},
		{with(example, 3, 0), false}, {with(example, 3, -1), false}, {with(example, 3, 1), true},
		{with(example, 3, 30), true}, {with(example, 3, 31), false},
		{with(greatest, 3, 4095), false}, {with(greatest, 3, 4096), false}, {with(greatest, 3, 4097), false},
	} {
		if may(c.g) != c.ok {
			t.Errorf("%+v: what the test holds it against is wrong", c.g)
		}
		wantCheck(t, c.g, c.ok)
	}
}

// Promise 6.1: of bytes the multiples of 8 from 16 to 256 alone.
func TestCheckBytes(t *testing.T) {
	g := api.Geo{Blocks: 8, Lines: 64, Lbas: 1, Wear: 2}
	for n := -300; n <= 600; n++ {
		wantCheck(t, with(g, 2, n), n >= 16 && n <= 256 && n%8 == 0)
	}
}

// Promise 6.1: as many spare blocks as leave eight, and not above 16.
func TestCheckSpare(t *testing.T) {
	for blocks := 0; blocks <= 70; blocks++ {
		for spare := -10; spare <= 70; spare++ {
			g := api.Geo{Blocks: blocks, Lines: 64, Bytes: 256, Lbas: 1, Spare: spare, Wear: 9}
			wantCheck(t, g, blocks >= 8 && blocks <= 64 && spare >= 0 && spare <= 16 && blocks-spare >= 8)
		}
	}
}

// Promise 6.1: as many sectors as the most, which is halved down, and not one more.
func TestCheckMost(t *testing.T) {
	for _, c := range []struct {
		g    api.Geo
		most int
	}{
		{api.Geo{Blocks: 8, Lines: 6, Bytes: 256, Spare: 0, Wear: 2}, 18},
		{api.Geo{Blocks: 9, Lines: 7, Bytes: 256, Spare: 0, Wear: 2}, 31},
		{api.Geo{Blocks: 9, Lines: 7, Bytes: 256, Spare: 1, Wear: 2}, 21},
		{api.Geo{Blocks: 24, Lines: 64, Bytes: 256, Spare: 16, Wear: 2}, 192},
		{api.Geo{Blocks: 32, Lines: 64, Bytes: 256, Spare: 0, Wear: 2}, 2496},
	} {
		if m := geom.Most(c.g); m != c.most {
			t.Errorf("Most(%+v): %d, not %d", c.g, m, c.most)
		}
		wantCheck(t, with(c.g, 3, c.most-1), true)
		wantCheck(t, with(c.g, 3, c.most), true)
		wantCheck(t, with(c.g, 3, c.most+1), false)
	}
}

// Promise 6.1: a snapshot that needs Lines - 4 pages, to the last byte, and one that needs one more.
func TestCheckSnapshot(t *testing.T) {
	for _, g := range []api.Geo{
		{Blocks: 8, Lines: 12, Bytes: 16, Lbas: 8, Spare: 0, Wear: 2},
		{Blocks: 64, Lines: 64, Bytes: 16, Lbas: 53, Spare: 16, Wear: 2},
		{Blocks: 64, Lines: 64, Bytes: 256, Lbas: 2453, Spare: 16, Wear: 1000},
		{Blocks: 33, Lines: 64, Bytes: 256, Lbas: 2505, Spare: 0, Wear: 7},
	} {
		if n := geom.Snaps(g); n != g.Lines-4 {
			t.Errorf("Snaps(%+v): %d, not %d", g, n, g.Lines-4)
		}
		more := with(g, 3, g.Lbas+1)
		if n := geom.Snaps(more); n != g.Lines-3 {
			t.Errorf("Snaps(%+v): %d, not %d", more, n, g.Lines-3)
		}
		wantCheck(t, g, true)
		wantCheck(t, more, false)
		wantCheck(t, with(g, 1, g.Lines-1), false)
	}
}

// Promise 6.1: blocks, lines, spare ones and sectors beside one another, also one beyond.
func TestCheckTogether(t *testing.T) {
	for blocks := 7; blocks <= 65; blocks += 2 {
		for lines := 5; lines <= 65; lines++ {
			for _, spare := range []int{-1, 0, 1, blocks - 8, blocks - 7, 15, 16, 17} {
				for _, bytes := range []int{8, 16, 17, 40, 128, 256, 264} {
					g := api.Geo{Blocks: blocks, Lines: lines, Bytes: bytes, Spare: spare, Wear: 5}
					most, room := mostOf(g), ((lines-4)*bytes-10*blocks)/6
					for _, lbas := range []int{0, 1, most, most + 1, room, room + 1} {
						x := with(g, 3, lbas)
						wantCheck(t, x, may(x))
					}
				}
			}
		}
	}
}

// Promise 6.1: no number that is far out may be, however it wraps round.
func TestCheckFar(t *testing.T) {
	for _, g := range []api.Geo{example, least, greatest} {
		for i := range fields {
			for _, v := range far() {
				wantCheck(t, with(g, i, v), false)
				for j := range fields {
					for _, w := range far() {
						wantCheck(t, with(with(g, i, v), j, w), false)
					}
				}
			}
		}
	}
}

// Promises 6.1 and 6.2: the example, and others worked out by hand.
func TestComesTo(t *testing.T) {
	for _, c := range []struct {
		g                              api.Geo
		snaps, most, raw, bound, apart int
	}{
		{example, 4, 30, 99, 22848, 84},
		{least, 2, 18, 81, 11232, 74},
		{api.Geo{Blocks: 8, Lines: 12, Bytes: 16, Lbas: 8, Spare: 0, Wear: 2}, 8, 36, 45, 22272, 74},
		{greatest, 60, 4032, 315, 2427936, 1520},
	} {
		wantCheck(t, c.g, true)
		if n := geom.Snaps(c.g); n != c.snaps {
			t.Errorf("Snaps(%+v): %d, not %d", c.g, n, c.snaps)
		}
		if n := geom.Most(c.g); n != c.most {
			t.Errorf("Most(%+v): %d, not %d", c.g, n, c.most)
		}
		if n := geom.Raw(c.g); n != c.raw {
			t.Errorf("Raw(%+v): %d, not %d", c.g, n, c.raw)
		}
		if n := geom.Bound(c.g); n != c.bound {
			t.Errorf("Bound(%+v): %d, not %d", c.g, n, c.bound)
		}
		if n := geom.Spread(c.g); n != c.apart {
			t.Errorf("Spread(%+v): %d, not %d", c.g, n, c.apart)
		}
	}
}

// Promises 6.1 and 6.2: whatever may be, against what is counted out.
func TestComesToCounted(t *testing.T) {
	for _, g := range some() {
		wantCheck(t, g, true)
		snaps := snapsOf(g)
		if n := geom.Snaps(g); n != snaps || n*g.Bytes < needOf(g) || (n-1)*g.Bytes >= needOf(g) {
			t.Errorf("Snaps(%+v): %d, not %d", g, n, snaps)
		}
		if n := geom.Most(g); n != mostOf(g) {
			t.Errorf("Most(%+v): %d, not %d", g, n, mostOf(g))
		}
		lines := g.Lines<<4 + g.Lbas + snaps + snaps + 16
		bound := 0
		for range g.Blocks + g.Spare + 4 {
			bound += lines << 3
		}
		if n := geom.Bound(g); n != bound {
			t.Errorf("Bound(%+v): %d, not %d", g, n, bound)
		}
		apart := g.Wear + 8
		for range g.Blocks {
			apart += 8
		}
		if n := geom.Spread(g); n != apart {
			t.Errorf("Spread(%+v): %d, not %d", g, n, apart)
		}
	}
}

// Promise 6.1: all sizes of a page: nine bytes for each eight of a tag's sixteen, the data, the sum's four and four noughts.
func TestRaw(t *testing.T) {
	for bytes := 16; bytes <= 256; bytes += 8 {
		raw := 0
		for range (16 + bytes + 4 + 4) / 8 {
			raw += 9
		}
		g := api.Geo{Blocks: 8, Lines: 64, Bytes: bytes, Lbas: 1, Wear: 2}
		if n := geom.Raw(g); n != raw {
			t.Errorf("Raw of %d bytes: %d, not %d", bytes, n, raw)
		}
	}
}

// Promises 6.3 and 6.4: all pages of a geometry, counted in order, there and back.
func TestPages(t *testing.T) {
	for _, g := range []api.Geo{example, least, greatest, {Blocks: 11, Lines: 7, Bytes: 256, Lbas: 5, Spare: 3, Wear: 9}} {
		next := 0
		for block := range g.Blocks {
			for line := range g.Lines {
				for part := range 3 {
					a := api.Addr{Block: block, Line: line, Part: part}
					if n, e := geom.Number(g, a); n != next || e != api.OK {
						t.Errorf("Number(%+v, %+v): %d, %d, not %d", g, a, n, int(e), next)
					}
					if r, e := geom.At(g, next); r != a || e != api.OK {
						t.Errorf("At(%+v, %d): %+v, %d, not %+v", g, next, r, int(e), a)
					}
					next++
				}
			}
		}
		if a, e := geom.At(g, next); a != (api.Addr{}) || e != api.ErrRange {
			t.Errorf("At(%+v, %d): %+v, %d", g, next, a, int(e))
		}
	}
}

// Promise 6.3: a block, a line or a part that is none, and numbers of no page, also such as come to a page's when they wrap round.
func TestNoPage(t *testing.T) {
	for _, g := range []api.Geo{example, least, greatest} {
		for _, v := range far() {
			wantRefused(t, g, api.Addr{Block: v}, v, api.ErrRange)
			wantRefused(t, g, api.Addr{Line: v}, v, api.ErrRange)
			wantRefused(t, g, api.Addr{Part: v}, v, api.ErrRange)
			wantRefused(t, g, api.Addr{Block: v, Line: v, Part: v}, v, api.ErrRange)
		}
		pages := g.Blocks * g.Lines * 3
		for _, a := range []api.Addr{
			{Block: -1}, {Line: -1}, {Part: -1}, {Block: 1, Line: -1}, {Line: 1, Part: -1}, {Block: 1, Part: -1},
			{Block: g.Blocks}, {Line: g.Lines}, {Part: 3}, {Block: g.Blocks + 1}, {Line: g.Lines + 1}, {Part: 4},
			{Block: g.Blocks, Line: -g.Lines}, {Line: g.Lines - 1, Part: 3}, {Block: -1, Line: g.Lines, Part: 3},
			{Block: g.Blocks - 1, Line: g.Lines - 1, Part: 3}, {Block: g.Blocks - 1, Line: g.Lines, Part: 2}, {Block: g.Blocks, Line: g.Lines - 1, Part: 2},
		} {
			wantRefused(t, g, a, pages, api.ErrRange)
		}
		for _, n := range []int{-1, -2, -3, -pages, pages, pages + 1, 2 * pages} {
			wantRefused(t, g, api.Addr{Block: -1}, n, api.ErrRange)
		}
		last := api.Addr{Block: g.Blocks - 1, Line: g.Lines - 1, Part: 2}
		if n, e := geom.Number(g, last); n != pages-1 || e != api.OK {
			t.Errorf("Number(%+v, %+v): %d, %d", g, last, n, int(e))
		}
		if a, e := geom.At(g, pages-1); a != last || e != api.OK {
			t.Errorf("At(%+v, %d): %+v, %d", g, pages-1, a, int(e))
		}
	}
}

// Promise 6.3: a geometry that may not be is told first, and beside an address or a number that would be right.
func TestNoGeometry(t *testing.T) {
	for _, g := range []api.Geo{
		{}, with(example, 0, 65), with(example, 1, 5), with(example, 2, 65), with(example, 2, 0), with(example, 3, 31),
		with(example, 4, 2), with(example, 5, 1), with(greatest, 3, 2454), with(example, 1, minInt), with(example, 0, maxInt),
	} {
		for _, a := range []api.Addr{{}, {Block: 1, Line: 1, Part: 1}, {Block: -1}, {Line: maxInt}, {Part: 3}, {Block: minInt, Line: minInt, Part: minInt}} {
			for _, n := range []int{0, 1, -1, maxInt, minInt} {
				wantRefused(t, g, a, n, api.ErrGeo)
			}
		}
	}
}

// Promise 6.4: with the most sectors spread as evenly as can be, the two blocks with the fewest have room in one.
func TestTwoHaveRoom(t *testing.T) {
	for _, g := range some() {
		pages, blocks := geom.Most(g), g.Blocks-g.Spare-4
		count := make([]int, blocks)
		for i := range pages {
			count[i%blocks]++
		}
		// The last ones have the fewest, as they are dealt to last.
		if two := count[blocks-1] + count[blocks-2]; two > 3*g.Lines {
			t.Errorf("%+v: two blocks of %d pages", g, two)
		}
	}
}

// Promise P1: whatever a geometry's numbers are, no call panics, and Check says what is so.
func TestAnyGeometry(t *testing.T) {
	values := []int{minInt, -8, -1, 0, 1, 8, 16, 64, maxInt}
	for i := range len(values) * len(values) * len(values) * len(values) * len(values) * len(values) {
		g := api.Geo{}
		for k := range fields {
			*field(&g, k) = values[i%len(values)]
			i /= len(values)
		}
		wantCheck(t, g, may(g))
		geom.Snaps(g)
		geom.Most(g)
		geom.Raw(g)
		geom.Bound(g)
		geom.Spread(g)
		geom.Number(g, api.Addr{Block: g.Blocks, Line: g.Lines, Part: g.Spare})
		geom.At(g, g.Lbas)
	}
}
