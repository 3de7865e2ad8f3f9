package scan_test

import (
	"iter"
	"math"
	"slices"
	"strings"
	"testing"

	"deckle/api"
	"deckle/chip"
	"deckle/frame"
	"deckle/scan"
)

const maxInt, minInt = math.MaxInt, math.MinInt

// small is a geometry of the fewest blocks and lines.
var small = api.Geo{Blocks: 8, Lines: 6, Bytes: 48, Lbas: 1, Spare: 0, Wear: 2}

// geos answers geometries that may be: of the fewest and the most blocks and lines, the least and the greatest pages.
func geos() []api.Geo {
	return []api.Geo{
		small,
		{Blocks: 9, Lines: 10, Bytes: 64, Lbas: 20, Spare: 1, Wear: 4},
		{Blocks: 8, Lines: 12, Bytes: 16, Lbas: 8, Spare: 0, Wear: 2},
		{Blocks: 64, Lines: 64, Bytes: 256, Lbas: 3, Spare: 16, Wear: 1000},
	}
}

// tagOf answers the tag of the page of that address, another one for each.
func tagOf(a api.Addr) api.Tag {
	n := (a.Block*64+a.Line)*3 + a.Part
	return api.Tag{Kind: 1 + n%4, Lba: n % 4096, Seq: 1000 + n, Epoch: 1 + a.Block}
}

// dataOf answers the data of the page of that address, other ones for each.
func dataOf(g api.Geo, a api.Addr) string {
	n := (a.Block*64+a.Line)*3 + a.Part
	return strings.Repeat(string([]byte{byte(n), byte(n >> 8), 'd', 'a', 't', 'a', '.', ' '}), g.Bytes/8)
}

func good(g api.Geo, a api.Addr) api.Page {
	return api.Page{What: api.PGood, Tag: tagOf(a), Data: dataOf(g, a)}
}

func fixed(g api.Geo, a api.Addr) api.Page {
	return api.Page{What: api.PFixed, Tag: tagOf(a), Data: dataOf(g, a)}
}

func erased() api.Page { return api.Page{What: api.PErased} }

func bad() api.Page { return api.Page{What: api.PBad} }

// raw answers the page of that address, as it lies on the chip.
func raw(t *testing.T, g api.Geo, a api.Addr) string {
	t.Helper()
	s, e := frame.Encode(tagOf(a), dataOf(g, a))
	if e != api.OK {
		t.Fatalf("%+v: %d", a, e)
	}
	return s
}

func three(t *testing.T, g api.Geo, block, line int) (l [3]string) {
	t.Helper()
	for part := range l {
		l[part] = raw(t, g, api.Addr{Block: block, Line: line, Part: part})
	}
	return l
}

func newChip(t *testing.T, g api.Geo, faults ...api.Fault) *chip.Chip {
	t.Helper()
	c, e := chip.New(g, faults)
	if e != api.OK {
		t.Fatalf("New(%+v): %d", g, e)
	}
	return c
}

// program writes lines from the first one up to the one ahead of to, one bit a cell; the last one comes to code.
func program(t *testing.T, c *chip.Chip, block, from, to int, code api.Code) {
	t.Helper()
	for line := from; line < to; line++ {
		want := api.OK
		if line == to-1 {
			want = code
		}
		if e := c.Program(block, line, raw(t, c.Geo(), api.Addr{Block: block, Line: line})); e != want {
			t.Fatalf("block %d, line %d: %d, not %d", block, line, e, want)
		}
	}
}

// steps does so many steps of two passes; the last one comes to code.
func steps(t *testing.T, c *chip.Chip, block, n int, code api.Code) {
	t.Helper()
	for i := range n {
		want := api.OK
		if i == n-1 {
			want = code
		}
		if e := step(t, c, block, i); e != want {
			t.Fatalf("block %d, step %d: %d, not %d", block, i, e, want)
		}
	}
}

// step does the step i: line 0 foggy, then each line foggy and the one ahead of it fine, then the last one fine.
func step(t *testing.T, c *chip.Chip, block, i int) api.Code {
	t.Helper()
	last := c.Geo().Lines - 1
	switch {
	case i == 0:
		return c.Foggy(block, 0, three(t, c.Geo(), block, 0))
	case i == 2*last+1:
		return c.Fine(block, last, three(t, c.Geo(), block, last))
	case i%2 == 1:
		return c.Foggy(block, i/2+1, three(t, c.Geo(), block, i/2+1))
	default:
		return c.Fine(block, i/2-1, three(t, c.Geo(), block, i/2-1))
	}
}

func erase(t *testing.T, c *chip.Chip, block int, code api.Code) {
	t.Helper()
	if e := c.Erase(block); e != code {
		t.Fatalf("erase %d: %d, not %d", block, e, code)
	}
}

// slc answers a block of one bit a cell: so many lines are good, the others erased.
func slc(g api.Geo, block, lines int) api.Block {
	b := api.Block{Mode: api.MSlc}
	for line := range g.Lines {
		p := erased()
		if line < lines {
			p = good(g, api.Addr{Block: block, Line: line})
		}
		b.Pages = append(b.Pages, p)
	}
	return b
}

// tlc answers a block of three bits a cell: so many lines are fine, as many behind these foggy, the others erased.
func tlc(g api.Geo, block, fine, foggy int) api.Block {
	b := api.Block{Mode: api.MTlc}
	for line := range g.Lines {
		for part := range 3 {
			p := erased()
			switch {
			case line < fine:
				p = good(g, api.Addr{Block: block, Line: line, Part: part})
			case line < fine+foggy:
				p = bad()
			}
			b.Pages = append(b.Pages, p)
		}
	}
	return b
}

// failed answers b as one that failed.
func failed(b api.Block) api.Block {
	b.Bad = true
	return b
}

// torn answers b with its pages of the places from from to less than to bad.
func torn(b api.Block, from, to int) api.Block {
	for i := from; i < to; i++ {
		b.Pages[i] = bad()
	}
	return b
}

// address answers the place of a page of a block of that mode, counted one by one.
func address(block, mode, place int) api.Addr {
	a := api.Addr{Block: block}
	for range place {
		a.Part++
		if mode == api.MSlc || a.Part == 3 {
			a.Line, a.Part = a.Line+1, 0
		}
	}
	return a
}

func isSameBlock(a, b api.Block) bool {
	return a.Mode == b.Mode && a.Bad == b.Bad && slices.Equal(a.Pages, b.Pages)
}

func pagesOf(l []api.Block) (n int) {
	for _, b := range l {
		n += len(b.Pages)
	}
	return n
}

// wantScan holds that c is scanned as want, by as many operations as there are pages, and that nothing else is changed.
func wantScan(t *testing.T, c *chip.Chip, want []api.Block) []api.Block {
	t.Helper()
	ops, cuts, rejects, before := c.Ops(), c.Cuts(), c.Rejects(), c.Copy(nil)
	l, e := scan.Scan(c)
	if e != api.OK {
		t.Errorf("Scan: %d", e)
	}
	wantBlocks(t, l, want)
	if c.Ops() != ops+pagesOf(want) || c.Cuts() != cuts || c.Rejects() != rejects {
		t.Errorf("%d operations, not %d more than %d; cuts %d, %d refused", c.Ops(), pagesOf(want), ops, c.Cuts()-cuts, c.Rejects()-rejects)
	}
	wantSameCells(t, c, before)
	return l
}

func wantBlocks(t *testing.T, l, want []api.Block) {
	t.Helper()
	if len(l) != len(want) {
		t.Fatalf("%d blocks, not %d", len(l), len(want))
	}
	for i := range l {
		if !isSameBlock(l[i], want[i]) {
			t.Errorf("block %d: %+v, not %+v", i, l[i], want[i])
		}
	}
}

// wantSameCells holds that the blocks of both are the same, page by page.
func wantSameCells(t *testing.T, a, b *chip.Chip) {
	t.Helper()
	a, b = a.Copy(nil), b.Copy(nil)
	for block := range a.Geo().Blocks {
		aslc, atlc := a.Wear(block)
		bslc, btlc := b.Wear(block)
		if a.Mode(block) != b.Mode(block) || a.Bad(block) != b.Bad(block) || aslc != bslc || atlc != btlc {
			t.Errorf("block %d is another one", block)
		}
		for i := range 3 * a.Geo().Lines {
			at := api.Addr{Block: block, Line: i / 3, Part: i % 3}
			s, e := a.Read(at)
			if r, f := b.Read(at); r != s || f != e {
				t.Errorf("%+v is another one", at)
			}
		}
	}
}

func wantNone(t *testing.T, l []api.Block, e api.Code) {
	t.Helper()
	if len(l) != 0 || e != api.ErrPower {
		t.Errorf("%d blocks, %d", len(l), e)
	}
}

// mixed answers a chip with blocks of each kind, and how it is scanned.
func mixed(t *testing.T, g api.Geo) (*chip.Chip, []api.Block) {
	t.Helper()
	c := newChip(t, g,
		// The three that are programmed first take 2, Lines and 4 operations.
		api.Fault{At: g.Lines + 6 + 2, Kind: api.FFail, A: 5, B: 6},
		api.Fault{At: g.Lines + 6 + 4, Kind: api.FCut, A: 7, B: 8})
	program(t, c, 1, 0, 2, api.OK)
	program(t, c, 2, 0, g.Lines, api.OK)
	steps(t, c, 3, 4, api.OK)
	program(t, c, 4, 0, 3, api.ErrFail)
	steps(t, c, 5, 2, api.ErrPower)
	c.Power()
	program(t, c, 6, 0, 1, api.OK)
	erase(t, c, 6, api.OK)
	l := make([]api.Block, g.Blocks)
	l[1], l[2], l[3] = slc(g, 1, 2), slc(g, 2, g.Lines), tlc(g, 3, 1, 2)
	l[4] = failed(torn(slc(g, 4, 2), 2, 3))
	// Line 0 is foggy, line 1 was being made so.
	l[5] = torn(tlc(g, 5, 0, 1), 3, 6)
	return c.Copy(nil), l
}

// Promise 15.1: the error's number is the one that the chapter lists.
func TestCode(t *testing.T) {
	c := newChip(t, small, api.Fault{At: 1, Kind: api.FCut})
	program(t, c, 0, 0, 1, api.OK)
	if l, e := scan.Scan(c); len(l) != 0 || e != 82 {
		t.Errorf("%d blocks, %d", len(l), e)
	}
}

// Promise 15.1: the chapter's example: of a chip that was never used, blocks without pages, no operation.
func TestNeverUsed(t *testing.T) {
	for _, g := range geos() {
		c := newChip(t, g, api.Fault{At: 0, Kind: api.FCut})
		l := wantScan(t, c, make([]api.Block, g.Blocks))
		if c.Ops() != 0 || c.Off() || c.Rejects() != 0 {
			t.Errorf("%+v: %d operations, off %t, %d refused", g, c.Ops(), c.Off(), c.Rejects())
		}
		for i, b := range l {
			if b.Mode != api.MNone || b.Bad || len(b.Pages) != 0 {
				t.Errorf("block %d: %+v", i, b)
			}
		}
	}
}

// Promise 15.1: blocks of one bit a cell: the part 0 of each line, of those not programmed, too.
func TestSlc(t *testing.T) {
	for _, g := range geos() {
		for _, block := range []int{0, 3, g.Blocks - 1} {
			for _, lines := range []int{1, 2, g.Lines - 1, g.Lines} {
				c := newChip(t, g)
				program(t, c, block, 0, lines, api.OK)
				want := make([]api.Block, g.Blocks)
				want[block] = slc(g, block, lines)
				wantScan(t, c, want)
			}
		}
	}
}

// Promise 15.1: blocks of three bits a cell: all parts of each line, of those that are foggy only, or not programmed, too.
func TestTlc(t *testing.T) {
	for _, g := range geos() {
		for _, block := range []int{0, 3, g.Blocks - 1} {
			for _, n := range []int{1, 2, 3, 4, 5, 2*g.Lines - 1, 2 * g.Lines} {
				c := newChip(t, g)
				steps(t, c, block, n, api.OK)
				fine, foggy := (n-1)/2, 1+(n-1)%2
				switch n {
				case 2 * g.Lines:
					fine, foggy = g.Lines, 0
				case 2*g.Lines - 1:
					fine, foggy = g.Lines-1, 1
				}
				want := make([]api.Block, g.Blocks)
				want[block] = tlc(g, block, fine, foggy)
				wantScan(t, c, want)
			}
		}
	}
}

// Promise 15.1: blocks that are erased have no pages, whatever their mode was.
func TestErased(t *testing.T) {
	c := newChip(t, small)
	program(t, c, 0, 0, 6, api.OK)
	steps(t, c, 1, 5, api.OK)
	for block := range 3 {
		erase(t, c, block, api.OK)
	}
	wantScan(t, c, make([]api.Block, small.Blocks))
	program(t, c, 1, 0, 2, api.OK)
	want := make([]api.Block, small.Blocks)
	want[1] = slc(small, 1, 2)
	wantScan(t, c, want)
}

// Promise 15.1: blocks that failed, in each mode and at each operation, are read as others, and told as bad.
func TestBad(t *testing.T) {
	fail := api.Fault{At: 2, Kind: api.FFail, A: 71, B: 70}
	all := make([]api.Block, small.Blocks)
	c := newChip(t, small, fail)
	program(t, c, 7, 0, 3, api.ErrFail)
	all[7] = failed(torn(slc(small, 7, 2), 2, 3))
	wantScan(t, c, all)

	c = newChip(t, small, fail)
	program(t, c, 7, 0, 2, api.OK)
	erase(t, c, 7, api.ErrFail)
	all[7] = failed(torn(slc(small, 7, 0), 0, 6))
	wantScan(t, c, all)

	c = newChip(t, small, fail)
	steps(t, c, 7, 3, api.ErrFail)
	all[7] = failed(torn(tlc(small, 7, 0, 2), 0, 3))
	wantScan(t, c, all)

	c = newChip(t, small, fail)
	steps(t, c, 7, 2, api.OK)
	erase(t, c, 7, api.ErrFail)
	all[7] = failed(torn(tlc(small, 7, 0, 0), 0, 18))
	wantScan(t, c, all)

	c = newChip(t, small, api.Fault{At: 0, Kind: api.FFail})
	erase(t, c, 7, api.ErrFail)
	all[7] = failed(torn(slc(small, 7, 0), 0, 6))
	wantScan(t, c, all)
}

// Promise 15.1: blocks whose last operation was cut.
func TestTorn(t *testing.T) {
	cut := api.Fault{At: 2, Kind: api.FCut, A: 71, B: 70}
	all := make([]api.Block, small.Blocks)
	c := newChip(t, small, cut)
	program(t, c, 0, 0, 3, api.ErrPower)
	c.Power()
	all[0] = torn(slc(small, 0, 2), 2, 3)
	wantScan(t, c, all)

	c = newChip(t, small, cut)
	steps(t, c, 0, 3, api.ErrPower)
	c.Power()
	all[0] = torn(tlc(small, 0, 0, 2), 0, 3)
	wantScan(t, c, all)

	c = newChip(t, small, cut)
	steps(t, c, 0, 2, api.OK)
	erase(t, c, 0, api.ErrPower)
	c.Power()
	all[0] = torn(tlc(small, 0, 0, 0), 0, 18)
	wantScan(t, c, all)

	c = newChip(t, small, api.Fault{At: 0, Kind: api.FCut})
	erase(t, c, 0, api.ErrPower)
	c.Power()
	all[0] = torn(slc(small, 0, 0), 0, 6)
	wantScan(t, c, all)
}

// Promises 15.1 and 15.3: blocks of each kind beside one another; a second scan comes to the same.
func TestMixed(t *testing.T) {
	for _, g := range geos() {
		c, want := mixed(t, g)
		first := wantScan(t, c, want)
		wantBlocks(t, wantScan(t, c, want), first)
		wantScan(t, c.Copy(nil), want)
	}
}

// Promise 15.3: no failure meets a read, nor does one of another number.
func TestNoFault(t *testing.T) {
	c, want := mixed(t, small)
	n := pagesOf(want)
	var faults []api.Fault
	for at := range n {
		faults = append(faults, api.Fault{At: at, Kind: api.FFail, A: 1, B: 2})
	}
	for _, at := range []int{-1, n, n + 1, maxInt, minInt} {
		faults = append(faults, api.Fault{At: at, Kind: api.FCut}, api.Fault{At: at, Kind: api.FFlip})
	}
	wantScan(t, c.Copy(faults), want)
}

// Promises 15.1 and 15.3: with a bit turned in one page, that page and no other is told as put right, and tells the same: pages are read once each, in order.
func TestFlip(t *testing.T) {
	for _, g := range []api.Geo{small, {Blocks: 9, Lines: 10, Bytes: 64, Lbas: 20, Spare: 1, Wear: 4}} {
		c, want := mixed(t, g)
		length := len(raw(t, g, api.Addr{})) * 8
		at := 0
		for block, b := range want {
			for place, p := range b.Pages {
				for _, bit := range []int{0, 1, 8, 71, 72, length / 2, length - 1, length} {
					flipped := c.Copy([]api.Fault{{At: at, Kind: api.FFlip, A: bit}})
					l, e := scan.Scan(flipped)
					if e != api.OK {
						t.Fatalf("a flip at %d: %d", at, e)
					}
					if p.What == api.PBad {
						// Of a page that tells nothing, nothing else is promised.
						l[block].Pages[place] = p
					}
					wantFlipped(t, g, l, want, block, place)
				}
				at++
			}
		}
	}
}

// wantFlipped holds that l is want, but for a page that is fixed, if it is good without that.
func wantFlipped(t *testing.T, g api.Geo, l, want []api.Block, block, place int) {
	t.Helper()
	for i, b := range want {
		pages := slices.Clone(b.Pages)
		if i == block && pages[place].What == api.PGood {
			pages[place] = fixed(g, address(block, b.Mode, place))
		}
		if !isSameBlock(l[i], api.Block{Mode: b.Mode, Bad: b.Bad, Pages: pages}) {
			t.Fatalf("a bit turned in the place %d of %d: block %d is %+v", place, block, i, l[i])
		}
	}
}

// Promise 15.3: with one bit turned in all pages, each one at another bit, all that are good without that tell the same.
func TestFlips(t *testing.T) {
	for _, g := range geos() {
		c, want := mixed(t, g)
		var faults []api.Fault
		for at := range pagesOf(want) {
			faults = append(faults, api.Fault{At: at, Kind: api.FFlip, A: at * 7})
		}
		flipped := c.Copy(faults)
		l, e := scan.Scan(flipped)
		if e != api.OK || flipped.Ops() != pagesOf(want) {
			t.Fatalf("%d, %d operations", e, flipped.Ops())
		}
		for block, b := range want {
			for place, p := range b.Pages {
				switch p.What {
				case api.PGood:
					p = fixed(g, address(block, b.Mode, place))
				case api.PBad:
					continue
				}
				if l[block].Pages[place] != p {
					t.Errorf("place %d of %d: %+v", place, block, l[block].Pages[place])
				}
			}
		}
		wantScan(t, flipped, want)
	}
}

// Promise 15.1: a chip that is shaken tells the first page that is read hurt, and no other one.
func TestShaken(t *testing.T) {
	c, want := mixed(t, small)
	c.Shake(3, 4)
	want[1].Pages[0] = bad()
	wantScan(t, c, want)
	want[1].Pages[0] = good(small, api.Addr{Block: 1})
	wantScan(t, c, want)
}

// Promise 15.1: the power goes at a read, at each one of them; then there is none, and nothing else is done.
func TestCut(t *testing.T) {
	from, want := mixed(t, small)
	n := pagesOf(want)
	for at := range n {
		c := from.Copy([]api.Fault{{At: at, Kind: api.FCut, A: 1, B: 2}})
		l, e := scan.Scan(c)
		wantNone(t, l, e)
		if c.Ops() != at+1 || c.Cuts() != 1 || c.Rejects() != 0 || !c.Off() {
			t.Errorf("cut at %d: %d operations, %d cuts, %d refused, off %t", at, c.Ops(), c.Cuts(), c.Rejects(), c.Off())
		}
		l, e = scan.Scan(c)
		wantNone(t, l, e)
		if c.Ops() != at+1 || !c.Off() {
			t.Errorf("without power: %d operations", c.Ops())
		}
		wantSameCells(t, c, from)
		c.Power()
		wantScan(t, c, want)
	}
	c := from.Copy([]api.Fault{{At: n, Kind: api.FCut}})
	wantScan(t, c, want)
	l, e := scan.Scan(c)
	wantNone(t, l, e)
}

// Promise 15.1: while the power is off, only what has no page is scanned: there no read answers that.
func TestOff(t *testing.T) {
	c := newChip(t, small, api.Fault{At: 1, Kind: api.FCut})
	program(t, c, 7, 0, 2, api.ErrPower)
	l, e := scan.Scan(c)
	wantNone(t, l, e)
	if c.Ops() != 2 || c.Cuts() != 1 || c.Rejects() != 0 {
		t.Errorf("%d operations, %d cuts, %d refused", c.Ops(), c.Cuts(), c.Rejects())
	}
	c.Power()
	erase(t, c, 7, api.OK)
	c = newChip(t, small, api.Fault{At: 1, Kind: api.FCut})
	program(t, c, 7, 0, 1, api.OK)
	l, e = scan.Scan(c)
	wantNone(t, l, e)
}

// Promise 15.1: what each page tells.
func TestTells(t *testing.T) {
	for _, what := range []int{api.PErased, api.PGood, api.PFixed, api.PBad, 0, -1, -2, -3, 5, 6, 1<<32 + 2, 1<<32 + 3, maxInt, minInt} {
		for _, p := range []api.Page{{What: what}, {What: what, Tag: tagOf(api.Addr{}), Data: "12345678"}} {
			if got := scan.Tells(p); got != (what == 2 || what == 3) {
				t.Errorf("Tells(%+v): %t", p, got)
			}
		}
	}
}

func page(what, seq, epoch int) api.Page {
	return api.Page{What: what, Tag: api.Tag{Kind: api.KData, Seq: seq, Epoch: epoch}, Data: "12345678"}
}

func of(pages ...api.Page) api.Block { return api.Block{Mode: api.MSlc, Pages: pages} }

func wantTop(t *testing.T, l []api.Block, seq, epoch int) {
	t.Helper()
	if s, e := scan.Top(l); s != seq || e != epoch {
		t.Errorf("Top(%+v): %d, %d, not %d, %d", l, s, e, seq, epoch)
	}
}

// Promise 15.2: the top of nothing that tells is 0.
func TestTopNone(t *testing.T) {
	wantTop(t, nil, 0, 0)
	wantTop(t, []api.Block{}, 0, 0)
	wantTop(t, []api.Block{{}}, 0, 0)
	wantTop(t, make([]api.Block, 64), 0, 0)
	wantTop(t, []api.Block{of(), {Mode: api.MTlc, Bad: true}}, 0, 0)
	for _, what := range []int{api.PErased, api.PBad, 0, 5, -1} {
		wantTop(t, []api.Block{of(page(what, 5, 6)), of(page(what, 7, 3), page(what, maxInt, maxInt))}, 0, 0)
	}
}

// Promise 15.2: the greatest ones, wherever they stand, of pages that tell, in blocks of any mode, bad ones, too.
func TestTop(t *testing.T) {
	wantTop(t, []api.Block{of(page(api.PGood, 5, 6))}, 5, 6)
	wantTop(t, []api.Block{of(page(api.PFixed, 281474976710655, 4294967295))}, 281474976710655, 4294967295)
	wantTop(t, []api.Block{of(page(api.PGood, maxInt, 0)), of(page(api.PGood, 0, maxInt))}, maxInt, maxInt)
	for at := range 6 {
		for other := range 6 {
			for _, mode := range []int{api.MNone, api.MSlc, api.MTlc, 7} {
				l := []api.Block{{Mode: mode}, {Mode: mode, Bad: true}, {}, {Mode: mode}}
				for i := range 6 {
					p := page(api.PGood+i%2, 10+i, 20-i)
					if i == at {
						p.Tag.Seq = 100
					}
					if i == other {
						p.Tag.Epoch = 200
					}
					b := []int{0, 1, 3}[i/2]
					l[b].Pages = append(l[b].Pages, page(api.PBad, 1000, 2000), p, page(api.PErased, 3000, 4000))
				}
				wantTop(t, l, 100, 200)
			}
		}
	}
}

// Promise 15.2: numbers below 0 are never the greatest.
func TestTopBelow(t *testing.T) {
	wantTop(t, []api.Block{of(page(api.PGood, -1, -1))}, 0, 0)
	wantTop(t, []api.Block{of(page(api.PGood, -5, -7), page(api.PFixed, minInt, minInt))}, 0, 0)
	wantTop(t, []api.Block{of(page(api.PGood, -5, 3), page(api.PFixed, -4, -9))}, 0, 3)
	wantTop(t, []api.Block{of(page(api.PGood, 5, -3)), of(page(api.PFixed, -4, -9))}, 5, 0)
	wantTop(t, []api.Block{of(page(api.PGood, 0, 0)), of(page(api.PFixed, -4, 1))}, 0, 1)
}

// Promise 15.2: the top of a chip that was scanned.
func TestTopOfScan(t *testing.T) {
	c, want := mixed(t, small)
	l := wantScan(t, c, want)
	// The last page that tells is the part 2 of the first line of the block 3 for its number, and one of the block 4 for its epoch.
	seq := tagOf(api.Addr{Block: 4, Line: 1}).Seq
	wantTop(t, l, seq, 5)
}

// blockOf answers a block of so many pages, each another one.
func blockOf(mode, n int) api.Block {
	b := api.Block{Mode: mode}
	for i := range n {
		p := page(1+i%4, 100+i, i)
		b.Pages = append(b.Pages, p)
	}
	return b
}

// pair is a page with its address.
type pair struct {
	a api.Addr
	p api.Page
}

// take answers at most n of what is told.
func take(of iter.Seq2[api.Addr, api.Page], n int) (l []pair) {
	if n == 0 {
		return nil
	}
	for a, p := range of {
		l = append(l, pair{a, p})
		if len(l) == n {
			break
		}
	}
	return l
}

// pairs answers what the first n pages of b are told as.
func pairs(block int, b api.Block, n int) (l []pair) {
	for i, p := range b.Pages[:n] {
		l = append(l, pair{address(block, b.Mode, i), p})
	}
	return l
}

// modes answers all modes, and what is none.
func modes() []int {
	return []int{api.MNone, api.MSlc, api.MTlc, 3, -1, 1<<32 + 1, maxInt, minInt}
}

// Promise 15.2: pages of blocks of each mode and length, as many as there are, and more, with their addresses, twice, and broken off behind each.
func TestWhere(t *testing.T) {
	for _, g := range geos()[:3] {
		for _, mode := range modes() {
			for _, n := range []int{0, 1, 2, 3, 4, g.Lines - 1, g.Lines, g.Lines + 1, 3*g.Lines - 1, 3 * g.Lines, 3*g.Lines + 1, 200} {
				b := blockOf(mode, n)
				for _, block := range []int{0, 1, g.Blocks - 1, g.Blocks, 64, -1, minInt, maxInt} {
					where := scan.Where(g, block, b)
					for range 2 {
						for stop := range n + 1 {
							if got := take(where, stop); !slices.Equal(got, pairs(block, b, stop)) {
								t.Fatalf("mode %d, the first %d of %d: %v", mode, stop, n, got)
							}
						}
						if got := take(where, -1); !slices.Equal(got, pairs(block, b, n)) {
							t.Fatalf("mode %d, %d pages: %v", mode, n, got)
						}
					}
				}
			}
		}
	}
}

// Promise 15.2: addresses, written out.
func TestWhereWritten(t *testing.T) {
	want := map[int][]api.Addr{
		api.MSlc: {{Block: 7}, {Block: 7, Line: 1}, {Block: 7, Line: 2}, {Block: 7, Line: 3}, {Block: 7, Line: 4}},
		api.MTlc: {{Block: 7}, {Block: 7, Part: 1}, {Block: 7, Part: 2}, {Block: 7, Line: 1}, {Block: 7, Line: 1, Part: 1}},
	}
	want[api.MNone] = want[api.MTlc]
	for mode, addresses := range want {
		var got []api.Addr
		for a := range scan.Where(small, 7, blockOf(mode, 5)) {
			got = append(got, a)
		}
		if !slices.Equal(got, addresses) {
			t.Errorf("mode %d: %v", mode, got)
		}
	}
}

// Promise 15.2: what stands where hangs on no geometry, nor on whether the block is bad; one that may not be is refused by nothing.
func TestWhereAnyGeo(t *testing.T) {
	for _, g := range []api.Geo{{}, {Blocks: minInt, Lines: minInt, Bytes: minInt}, {Blocks: maxInt, Lines: maxInt, Bytes: maxInt, Lbas: maxInt}, {Lines: 1}} {
		for _, mode := range modes() {
			b := failed(blockOf(mode, 20))
			if got := take(scan.Where(g, 3, b), -1); !slices.Equal(got, pairs(3, b, 20)) {
				t.Errorf("%+v, mode %d: %v", g, mode, got)
			}
		}
	}
}

// Promise 15.2: nested in itself, each one goes its own way.
func TestWhereNested(t *testing.T) {
	b := blockOf(api.MTlc, 7)
	where := scan.Where(small, 2, b)
	var got []pair
	for a, p := range where {
		if inner := take(where, -1); !slices.Equal(inner, pairs(2, b, 7)) {
			t.Errorf("inside: %v", inner)
		}
		got = append(got, pair{a, p})
	}
	if !slices.Equal(got, pairs(2, b, 7)) {
		t.Errorf("outside: %v", got)
	}
}

// Promises 15.1 and 15.2: of a chip that was scanned, each page stands where it is read.
func TestWhereOfScan(t *testing.T) {
	for _, g := range geos()[:3] {
		c, _ := mixed(t, g)
		l, e := scan.Scan(c)
		if e != api.OK {
			t.Fatal(e)
		}
		n := 0
		for block, b := range l {
			for a, p := range scan.Where(g, block, b) {
				s, e := c.Read(a)
				if e != api.OK || frame.Decode(s) != p {
					t.Errorf("%+v: %d, %+v", a, e, p)
				}
				n++
			}
		}
		if n != pagesOf(l) {
			t.Errorf("%d pages, not %d", n, pagesOf(l))
		}
	}
}

// Rule R4: what is handed in is not changed, nor kept, spare room neither.
func TestArguments(t *testing.T) {
	spare := page(api.PGood, maxInt, maxInt)
	b := blockOf(api.MTlc, 9)
	b.Pages = append(slices.Grow(b.Pages, 1), spare)[:9]
	before := slices.Clone(b.Pages)
	where := scan.Where(small, 1, b)
	want := pairs(1, b, 9)
	if got := take(where, -1); !slices.Equal(got, want) {
		t.Errorf("%v", got)
	}
	if !slices.Equal(b.Pages, before) || b.Pages[:10][9] != spare {
		t.Errorf("changed: %v", b.Pages[:10])
	}
	for i := range b.Pages {
		b.Pages[i] = spare
	}
	b.Mode = api.MSlc
	if got := take(where, -1); !slices.Equal(got, want) {
		t.Errorf("of what was changed later: %v", got)
	}
	l := append(slices.Grow([]api.Block{of(page(api.PGood, 1, 2))}, 1), of(spare))[:1]
	l[0].Pages = append(slices.Grow(l[0].Pages, 1), spare)[:1]
	wantTop(t, l, 1, 2)
	if l[0].Pages[0] != page(api.PGood, 1, 2) || l[0].Pages[:2][1] != spare || !isSameBlock(l[:2][1], of(spare)) {
		t.Error("changed")
	}
}

// Rule R4: an answer is new memory, spare room too, and no two lists of it share any.
func TestAnswers(t *testing.T) {
	c, want := mixed(t, small)
	first := wantScan(t, c, want)
	second := wantScan(t, c, want)
	for i := range first {
		pages := first[i].Pages[:cap(first[i].Pages)]
		for k := range pages {
			pages[k] = page(api.PBad, 77, 88)
		}
		for k := i + 1; k < len(first); k++ {
			if !isSameBlock(first[k], want[k]) {
				t.Errorf("block %d shares what block %d has", k, i)
			}
		}
	}
	for i := range first[:cap(first)] {
		first[:cap(first)][i] = api.Block{Mode: 9}
	}
	wantBlocks(t, second, want)
	wantScan(t, c, want)
}
