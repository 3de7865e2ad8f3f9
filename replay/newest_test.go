package replay_test

import (
	"slices"
	"testing"

	"deckle/api"
	"deckle/chip"
	"deckle/frame"
	"deckle/replay"
	"deckle/scan"
)

// Promise 16.2: a geometry that may not be is told ahead of all else, also where no block is a journal.
func TestReplayGeo(t *testing.T) {
	b, _, _ := full(t, small, 1, 3)
	for _, g := range badGeos() {
		for _, l := range [][]api.Block{nil, {}, {{}}, make([]api.Block, 8), {b}, {{}, b, b}} {
			wantNone(t, g, l, api.ErrGeo)
		}
	}
}

// noJournals answers blocks that are none: never used, erased, of data, bad, of two passes, and almost journals of a great epoch.
func noJournals(t *testing.T, s shape) []api.Block {
	t.Helper()
	b, _, _ := full(t, s, 9, 1000)
	tlc, short, data, nought := b, b, b, b
	tlc.Mode = api.MTlc
	short.Pages = b.Pages[:s.first-1]
	data.Pages, nought.Pages = slices.Clone(b.Pages), slices.Clone(b.Pages)
	for place := range s.g.Lines {
		data.Pages[place].Tag.Kind = api.KData
		nought.Pages[place].Tag.Epoch = 0
	}
	last := changed(b, s.first-1, api.Page{What: api.PBad})
	return []api.Block{
		{}, {Mode: api.MSlc, Pages: make([]api.Page, s.g.Lines)}, {Mode: api.MTlc, Bad: true, Pages: make([]api.Page, 3*s.g.Lines)},
		tlc, short, data, nought, last,
	}
}

// Promise 16.2: of no block, and of blocks none of which is a journal, there is none.
func TestReplayNone(t *testing.T) {
	for _, s := range shapes() {
		wantNone(t, s.g, nil, api.ErrNone)
		wantNone(t, s.g, []api.Block{}, api.ErrNone)
		wantNone(t, s.g, make([]api.Block, s.g.Blocks), api.ErrNone)
		l := noJournals(t, s)
		wantNone(t, s.g, l, api.ErrNone)
		for i := range l {
			wantNone(t, s.g, l[i:i+1], api.ErrNone)
		}
	}
}

// Promise 16.2: one journal, wherever it stands between blocks that are none, with each number of pages that are used.
func TestReplayOne(t *testing.T) {
	for _, s := range shapes() {
		others := noJournals(t, s)
		for _, n := range []int{0, 1, s.rest() / 2, s.rest()} {
			d, log := some(s.g, n), logOf(s, n, n)
			b := journal(t, s, d, 7, log)
			for at := range len(others) + 1 {
				l := slices.Insert(slices.Clone(others), at, b)
				wantReplay(t, s.g, l, model(d, log), api.Meta{Block: at, Epoch: 7, Used: s.first + n})
			}
		}
	}
}

// kept is a journal, and what it is replayed to, but for its number.
type kept struct {
	b api.Block
	d api.State
	m api.Meta
}

// journals answers journals of these epochs, each of other numbers; the first one has the most records.
func journals(t *testing.T, s shape, epochs ...int) (l []kept) {
	t.Helper()
	for i, epoch := range epochs {
		d, log := some(s.g, i), logOf(s, i, max(0, s.rest()-i))
		m := api.Meta{Epoch: epoch, Used: s.first + len(log)}
		l = append(l, kept{journal(t, s, d, epoch, log), model(d, log), m})
	}
	return l
}

// orders answers all orders of n places.
func orders(n int) [][]int {
	if n == 0 {
		return [][]int{nil}
	}
	var l [][]int
	for _, order := range orders(n - 1) {
		for at := range n {
			l = append(l, slices.Insert(slices.Clone(order), at, n-1))
		}
	}
	return l
}

// wantNewest holds that of these journals, in each order and with other blocks between them, the one of that epoch that stands first is replayed.
func wantNewest(t *testing.T, s shape, all []kept, epoch int) {
	t.Helper()
	others := noJournals(t, s)
	for k, order := range orders(len(all)) {
		var l []api.Block
		newest := kept{m: api.Meta{Block: -1}}
		for i, which := range order {
			l = append(l, others[(k+i)%len(others)])
			if all[which].m.Epoch == epoch && newest.m.Block < 0 {
				newest = all[which]
				newest.m.Block = len(l)
			}
			l = append(l, all[which].b)
		}
		wantReplay(t, s.g, l, newest.d, newest.m)
	}
}

// Promises 16.2 and 16.3: of several journals the one of the greatest epoch, in each order; the others make no difference.
func TestReplayNewest(t *testing.T) {
	for _, s := range shapes() {
		wantNewest(t, s, journals(t, s, 1, 2), 2)
		wantNewest(t, s, journals(t, s, 2, 1), 2)
		wantNewest(t, s, journals(t, s, 3, 9, 5, 4), 9)
		wantNewest(t, s, journals(t, s, 1, mostEpoch-2, mostEpoch-1), mostEpoch-1)
	}
}

// Promise 16.2: of several of the same greatest epoch the one of the least number.
func TestReplaySame(t *testing.T) {
	for _, s := range shapes() {
		wantNewest(t, s, journals(t, s, 1, 1), 1)
		wantNewest(t, s, journals(t, s, 5, 3, 5), 5)
		wantNewest(t, s, journals(t, s, 3, 3, 7, 7), 7)
		wantNewest(t, s, journals(t, s, 8, 8, 8), 8)
	}
}

// Promise 16.3: a newer one of whose first pages one is missing makes no difference; without the newest one the older one counts.
func TestReplayMissing(t *testing.T) {
	for _, s := range shapes() {
		old, newer := journals(t, s, 3, 5)[0], journals(t, s, 3, 5)[1]
		newer.m.Block = 1
		wantReplay(t, s.g, []api.Block{old.b, newer.b}, newer.d, newer.m)
		for place := range s.first {
			for _, p := range []api.Page{{What: api.PErased}, {What: api.PBad}} {
				b := changed(newer.b, place, p)
				wantReplay(t, s.g, []api.Block{old.b, b}, old.d, old.m)
				last := old.m
				last.Block = 2
				wantReplay(t, s.g, []api.Block{b, {}, old.b}, old.d, last)
			}
		}
		wantReplay(t, s.g, []api.Block{old.b, {}}, old.d, old.m)
		wantReplay(t, s.g, []api.Block{old.b}, old.d, old.m)
	}
}

// Promise 16.3: whatever stands behind the first page that is none makes no difference, nor that nothing does.
func TestReplayBehind(t *testing.T) {
	for _, s := range shapes() {
		b, d, log := full(t, s, 3, 5)
		other, _, _ := full(t, s, 4, 9)
		for at := range s.rest() {
			want := api.Meta{Block: 1, Epoch: 5, Used: s.first + at}
			stopped := changed(b, s.first+at, api.Page{What: api.PBad})
			noughts := stopped
			noughts.Pages = slices.Concat(stopped.Pages[:s.first+at+1], make([]api.Page, s.rest()-at-1))
			mixed := stopped
			mixed.Pages = slices.Concat(stopped.Pages[:s.first+at+1], other.Pages[s.first+at+1:])
			short := stopped
			short.Pages = stopped.Pages[:s.first+at]
			for _, of := range []api.Block{stopped, noughts, mixed, short} {
				wantReplay(t, s.g, []api.Block{{}, of}, model(d, log[:at]), want)
			}
		}
	}
}

// Promise 16.2: records are applied in their order, on one page and over pages.
func TestReplayOrder(t *testing.T) {
	commit, later := api.Rec{Kind: api.RCommit, A: 2, B: 6}, api.Rec{Kind: api.RCommit, A: 2, B: 4}
	erase := api.Rec{Kind: api.RErase, A: 2, B: api.MTlc}
	for _, c := range []struct {
		records   []api.Rec
		commit, n int
	}{
		{[]api.Rec{commit, later}, 4, 0}, {[]api.Rec{later, commit}, 6, 0},
		{[]api.Rec{commit, erase}, 0, 1}, {[]api.Rec{erase, commit}, 6, 1},
		{[]api.Rec{commit, erase, later}, 4, 1}, {[]api.Rec{erase, commit, erase}, 0, 2},
	} {
		d := all(small.g, 0, 0, 0, 0)
		d.Commit[2], d.Tlc[2] = c.commit, c.n
		one := [][]api.Rec{c.records}
		wantReplay(t, small.g, []api.Block{journal(t, small, all(small.g, 0, 0, 0, 0), 1, one)}, d, api.Meta{Epoch: 1, Used: 3})
		var each [][]api.Rec
		for _, r := range c.records {
			each = append(each, []api.Rec{r})
		}
		wantReplay(t, small.g, []api.Block{journal(t, small, all(small.g, 0, 0, 0, 0), 1, each)}, d, api.Meta{Epoch: 1, Used: 2 + len(each)})
	}
}

// Promise 16.2: floors never fall, and no count is more than the greatest one.
func TestReplayEdges(t *testing.T) {
	d := all(small.g, 7, 8, mostCount, mostCount-1)
	log := [][]api.Rec{
		{{Kind: api.RTrim, A: 0, B: 6}, {Kind: api.RDelta, A: 1, B: 8}, {Kind: api.RTrim, A: 2, B: 7}},
		{{Kind: api.RErase, A: 0, B: api.MSlc}, {Kind: api.RErase, A: 1, B: api.MTlc}, {Kind: api.RErase, A: 1, B: api.MTlc}},
	}
	want := all(small.g, 7, 8, mostCount, mostCount-1)
	want.Floor[1], want.Commit[0], want.Commit[1], want.Tlc[1] = 8, 0, 0, mostCount
	wantReplay(t, small.g, []api.Block{journal(t, small, d, 1, log)}, want, api.Meta{Epoch: 1, Used: 4})
}

// Promise 16.2: the chapter's example: of two journals of the epochs 3 and 5 the one of 5, though the one of 3 has more records.
func TestReplayExample(t *testing.T) {
	old := journal(t, small, all(small.g, 1, 0, 0, 0), 3, logOf(small, 1, 4))
	d, log := all(small.g, 2, 0, 0, 0), [][]api.Rec{{{Kind: api.RTrim, A: 1, B: 5}}}
	newer := journal(t, small, d, 5, log)
	d.Floor[1] = 5
	wantReplay(t, small.g, []api.Block{old, newer}, d, api.Meta{Block: 1, Epoch: 5, Used: 3})
	wantReplay(t, small.g, []api.Block{newer, old}, d, api.Meta{Block: 0, Epoch: 5, Used: 3})
}

// Promise 16.2: as many blocks as one likes, though the geometry has fewer.
func TestReplayMany(t *testing.T) {
	l := make([]api.Block, 100)
	b, d, log := full(t, small, 1, 3)
	l[99] = b
	wantReplay(t, small.g, l, model(d, log), api.Meta{Block: 99, Epoch: 3, Used: 6})
}

// Rule R4: blocks that are handed in are not changed, and those behind the list's end not read.
func TestReplayArguments(t *testing.T) {
	for _, s := range shapes() {
		two := journals(t, s, 3, 5)
		l := []api.Block{two[0].b, {}, two[1].b}
		before := []api.Block{two[0].b, {}, two[1].b}
		for i := range before {
			before[i].Pages = slices.Clone(before[i].Pages)
		}
		wantReplay(t, s.g, l[:2], two[0].d, two[0].m)
		newer := two[1].m
		newer.Block = 2
		wantReplay(t, s.g, l, two[1].d, newer)
		if !slices.EqualFunc(l, before, isSameBlock) {
			t.Error("the blocks were changed")
		}
	}
}

// write programs the pages of b on a block of the chip, up to the first one that does not go well, and answers how many did.
func write(t *testing.T, c *chip.Chip, block int, b api.Block) int {
	t.Helper()
	for place, p := range b.Pages {
		if p.What == api.PErased {
			return place
		}
		s, e := frame.Encode(p.Tag, p.Data)
		if e != api.OK {
			t.Fatalf("place %d: %d", place, e)
		}
		if c.Program(block, place, s) != api.OK {
			return place
		}
	}
	return len(b.Pages)
}

func scanned(t *testing.T, c *chip.Chip) []api.Block {
	t.Helper()
	l, e := scan.Scan(c)
	if e != api.OK {
		t.Fatalf("Scan: %d", e)
	}
	return l
}

func newChip(t *testing.T, g api.Geo, faults ...api.Fault) *chip.Chip {
	t.Helper()
	c, e := chip.New(g, faults)
	if e != api.OK {
		t.Fatalf("New: %d", e)
	}
	return c
}

// Promises 16.2 and 16.3: journals on a chip, read with bits turned in each of their pages.
func TestReplayChip(t *testing.T) {
	for _, s := range shapes() {
		c := newChip(t, s.g)
		two := journals(t, s, 3, 5)
		write(t, c, 6, two[0].b)
		write(t, c, 2, two[1].b)
		m := two[1].m
		m.Block = 2
		wantReplay(t, s.g, scanned(t, c), two[1].d, m)
		var faults []api.Fault
		for at := range 2 * s.g.Lines {
			faults = append(faults, api.Fault{At: at, Kind: api.FFlip, A: 11 * at})
		}
		wantReplay(t, s.g, scanned(t, c.Copy(faults)), two[1].d, m)
	}
}

// Promise 16.3: a newer journal whose writing is cut, or fails, at any page counts just when all of its first pages are there, with the records that are.
func TestReplayCut(t *testing.T) {
	for _, s := range shapes() {
		old := journals(t, s, 3)[0]
		old.m.Block = 1
		b, d, log := full(t, s, 4, 5)
		from := newChip(t, s.g)
		write(t, from, 1, old.b)
		for at := range s.g.Lines + 1 {
			for _, kind := range []int{api.FCut, api.FFail} {
				c := from.Copy([]api.Fault{{At: at, Kind: kind, A: 3, B: 4}})
				if n := write(t, c, 0, b); n != at {
					t.Fatalf("%d pages, not %d", n, at)
				}
				c.Power()
				l := scanned(t, c.Copy(nil))
				if at < s.first {
					wantReplay(t, s.g, l, old.d, old.m)
					continue
				}
				wantReplay(t, s.g, l, model(d, log[:at-s.first]), api.Meta{Block: 0, Epoch: 5, Used: at})
			}
		}
	}
}

// Rule R7: the same call tells the same, again and again.
func TestSame(t *testing.T) {
	two := journals(t, small, 3, 5)
	l := []api.Block{two[0].b, two[1].b}
	m := two[1].m
	m.Block = 1
	for range 3 {
		wantReplay(t, small.g, l, two[1].d, m)
		if s, _, ok := replay.Journal(small.g, l[0]); !ok || !isSameState(s, some(small.g, 0)) {
			t.Errorf("Journal: %v, %t", s, ok)
		}
	}
}
