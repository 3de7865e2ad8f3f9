package replay_test

import (
	"iter"
	"math"
	"slices"
	"testing"

	"deckle/api"
	"deckle/replay"
	"deckle/snap"
)

const maxInt, minInt = math.MaxInt, math.MinInt

// The limits, written out as the document says them.
const (
	mostLbas  = 4096
	mostSeq   = 281474976710655
	mostEpoch = 4294967295
	mostCount = 16777215
)

// shape is a geometry, how many first pages its journals have, and how many records a page of them holds.
type shape struct {
	g           api.Geo
	first, hold int
}

// rest is how many pages a journal has behind its first ones.
func (s shape) rest() int { return s.g.Lines - s.first }

// small is of the fewest blocks and lines.
var small = shape{api.Geo{Blocks: 8, Lines: 6, Bytes: 64, Lbas: 4, Wear: 2}, 2, 7}

// shapes answers some of one first page, of as many as can be, and between; of pages of one record, and of many.
func shapes() []shape {
	return []shape{
		small,
		{api.Geo{Blocks: 8, Lines: 6, Bytes: 256, Lbas: 4, Wear: 2}, 1, 28},
		{api.Geo{Blocks: 9, Lines: 10, Bytes: 64, Lbas: 20, Spare: 1, Wear: 4}, 4, 7},
		{api.Geo{Blocks: 8, Lines: 12, Bytes: 16, Lbas: 8, Wear: 2}, 8, 1},
		{api.Geo{Blocks: 64, Lines: 64, Bytes: 256, Lbas: 3, Spare: 16, Wear: 1000}, 3, 28},
		{api.Geo{Blocks: 64, Lines: 64, Bytes: 256, Lbas: 2453, Spare: 16, Wear: 1000}, 60, 28},
	}
}

// badGeos answers geometries that may not be, by what is wrong with them; some are small but for that.
func badGeos() []api.Geo {
	return []api.Geo{
		{}, {Blocks: 7, Lines: 6, Bytes: 64, Lbas: 4, Wear: 2}, {Blocks: 65, Lines: 20, Bytes: 256, Lbas: 4, Wear: 2},
		{Blocks: 8, Lines: 5, Bytes: 256, Lbas: 4, Wear: 2}, {Blocks: 8, Lines: 65, Bytes: 64, Lbas: 4, Wear: 2},
		{Blocks: 8, Lines: 64, Bytes: 8, Lbas: 4, Wear: 2}, {Blocks: 8, Lines: 6, Bytes: 60, Lbas: 4, Wear: 2},
		{Blocks: 8, Lines: 6, Bytes: 264, Lbas: 4, Wear: 2}, {Blocks: 8, Lines: 6, Bytes: 64, Lbas: 0, Wear: 2},
		{Blocks: 8, Lines: 6, Bytes: 64, Lbas: 4, Spare: 1, Wear: 2}, {Blocks: 8, Lines: 6, Bytes: 64, Lbas: 4, Spare: -1, Wear: 2},
		{Blocks: 8, Lines: 6, Bytes: 64, Lbas: 4, Wear: 1}, {Blocks: 8, Lines: 6, Bytes: 64, Lbas: 4, Wear: 1001},
		{Blocks: 8, Lines: 6, Bytes: 48, Lbas: 4, Wear: 2}, {Blocks: 8, Lines: 6, Bytes: 64, Lbas: 9, Wear: 2},
		{Blocks: 8, Lines: 6, Bytes: 0, Lbas: 4, Wear: 2}, {Blocks: 8, Lines: 6, Bytes: -64, Lbas: 4, Wear: 2},
		{Blocks: maxInt, Lines: maxInt, Bytes: maxInt, Lbas: maxInt, Spare: maxInt, Wear: maxInt},
		{Blocks: minInt, Lines: minInt, Bytes: minInt, Lbas: minInt, Spare: minInt, Wear: minInt},
		{Blocks: 8, Lines: 6, Bytes: 64, Lbas: maxInt, Wear: 2}, {Blocks: maxInt, Lines: 6, Bytes: 64, Lbas: 4, Wear: 2},
	}
}

// numbers answers n different numbers below many, none of them 0; k tells which.
func numbers(n, many, k int) []int {
	l := make([]int, n)
	for i := range l {
		l[i] = 1 + (k*0x0d0b0907+i*0x01030507+0x060504)%(many-1)
	}
	return l
}

// some answers what fits g; k tells which.
func some(g api.Geo, k int) api.State {
	return api.State{
		Floor: numbers(g.Lbas, mostSeq, k), Commit: numbers(g.Blocks, mostEpoch, k+1),
		Slc: numbers(g.Blocks, mostCount, k+2), Tlc: numbers(g.Blocks, mostCount, k+3),
	}
}

// all answers what is durable where all numbers are the same ones.
func all(g api.Geo, floor, commit, slc, tlc int) api.State {
	return api.State{
		Floor: slices.Repeat([]int{floor}, g.Lbas), Commit: slices.Repeat([]int{commit}, g.Blocks),
		Slc: slices.Repeat([]int{slc}, g.Blocks), Tlc: slices.Repeat([]int{tlc}, g.Blocks),
	}
}

func clone(s api.State) api.State {
	return api.State{Floor: slices.Clone(s.Floor), Commit: slices.Clone(s.Commit), Slc: slices.Clone(s.Slc), Tlc: slices.Clone(s.Tlc)}
}

func isSameState(a, b api.State) bool {
	return slices.Equal(a.Floor, b.Floor) && slices.Equal(a.Commit, b.Commit) && slices.Equal(a.Slc, b.Slc) && slices.Equal(a.Tlc, b.Tlc)
}

func isNoState(s api.State) bool { return len(s.Floor)+len(s.Commit)+len(s.Slc)+len(s.Tlc) == 0 }

func isSameLog(a, b [][]api.Rec) bool { return slices.EqualFunc(a, b, slices.Equal) }

func isSameBlock(a, b api.Block) bool {
	return a.Mode == b.Mode && a.Bad == b.Bad && slices.Equal(a.Pages, b.Pages)
}

// recordOf answers a record of the geometry, of all kinds, sectors and blocks by turns; k tells which.
func recordOf(g api.Geo, k int) api.Rec {
	switch k % 5 {
	case 0:
		return api.Rec{Kind: api.RTrim, A: k * 7 % g.Lbas, B: k * 0x010203040506 % (mostSeq + 1)}
	case 1:
		return api.Rec{Kind: api.RDelta, A: g.Lbas - 1 - k%g.Lbas, B: k * 0x060504030201 % (mostSeq + 1)}
	case 2:
		return api.Rec{Kind: api.RCommit, A: k * 3 % g.Blocks, B: 1 + k*0x01020304%mostEpoch}
	case 3:
		return api.Rec{Kind: api.RErase, A: k * 5 % g.Blocks, B: api.MSlc}
	default:
		return api.Rec{Kind: api.RErase, A: g.Blocks - 1 - k%g.Blocks, B: api.MTlc}
	}
}

// logOf answers the records of n pages, at least one a page, and on some as many as it holds; k tells which.
func logOf(s shape, k, n int) [][]api.Rec {
	log := make([][]api.Rec, n)
	for i := range log {
		many := 1 + (k+i*3)%s.hold
		if i%3 == 1 {
			many = s.hold
		}
		for range many {
			log[i] = append(log[i], recordOf(s.g, k))
			k++
		}
	}
	return log
}

// bytesOf answers n bytes of v, the lowest first.
func bytesOf(v, n int) string {
	var b []byte
	for range n {
		b = append(b, byte(v))
		v >>= 8
	}
	return string(b)
}

// sheetOf answers n bytes: how many records l has, these, and noughts; the records need not be such as may be.
func sheetOf(n int, l ...api.Rec) string {
	s := bytesOf(len(l), 1)
	for _, r := range l {
		s += bytesOf(r.Kind, 1) + bytesOf(r.A, 2) + bytesOf(r.B, 6)
	}
	return s + string(make([]byte, n-len(s)))
}

// page answers a page that tells; in the odd places it was put right.
func page(kind, place, epoch int, data string) api.Page {
	tag := api.Tag{Kind: kind, Lba: place, Seq: 0, Epoch: epoch}
	return api.Page{What: api.PGood + place%2, Tag: tag, Data: data}
}

// firstOf answers the first pages of a journal.
func firstOf(t *testing.T, s shape, d api.State, epoch int) (l []api.Page) {
	t.Helper()
	pages, e := snap.Put(s.g, d)
	if e != api.OK || len(pages) != s.first {
		t.Fatalf("%+v: %d, %d first pages", s.g, e, len(pages))
	}
	for place, data := range pages {
		l = append(l, page(api.KSnap, place, epoch, data))
	}
	return l
}

// journal answers a block that is one, with a page of each of log's lists, and erased pages behind these up to its end.
func journal(t *testing.T, s shape, d api.State, epoch int, log [][]api.Rec) api.Block {
	t.Helper()
	b := api.Block{Mode: api.MSlc, Pages: firstOf(t, s, d, epoch)}
	for _, l := range log {
		b.Pages = append(b.Pages, page(api.KLog, len(b.Pages), epoch, sheetOf(s.g.Bytes, l...)))
	}
	for len(b.Pages) < s.g.Lines {
		b.Pages = append(b.Pages, api.Page{What: api.PErased})
	}
	return b
}

// full answers a journal with as many pages of records as there is room for, what is durable by its first pages, and the records.
func full(t *testing.T, s shape, k, epoch int) (api.Block, api.State, [][]api.Rec) {
	t.Helper()
	d, log := some(s.g, k), logOf(s, k, s.rest())
	return journal(t, s, d, epoch, log), d, log
}

// changed answers b with another page at that place.
func changed(b api.Block, place int, p api.Page) api.Block {
	b.Pages = slices.Clone(b.Pages)
	b.Pages[place] = p
	return b
}

// model answers what d comes to by the records, as the chapter of these says it.
func model(d api.State, log [][]api.Rec) api.State {
	d = clone(d)
	for _, r := range slices.Concat(log...) {
		switch r.Kind {
		case api.RTrim, api.RDelta:
			d.Floor[r.A] = max(d.Floor[r.A], r.B)
		case api.RCommit:
			d.Commit[r.A] = r.B
		case api.RErase:
			d.Commit[r.A] = 0
			if r.B == api.MSlc && d.Slc[r.A] < mostCount {
				d.Slc[r.A]++
			}
			if r.B == api.MTlc && d.Tlc[r.A] < mostCount {
				d.Tlc[r.A]++
			}
		}
	}
	return d
}

// take answers at most n of what is told; all of it, if n is below 0.
func take(of iter.Seq[[]api.Rec], n int) (log [][]api.Rec) {
	if n == 0 {
		return nil
	}
	for l := range of {
		log = append(log, l)
		if len(log) == n {
			break
		}
	}
	return log
}

// places answers the first place of n, one in the midst, and the last one.
func places(n int) []int { return slices.Compact([]int{0, n / 2, n - 1}) }

func wantJournal(t *testing.T, g api.Geo, b api.Block, d api.State, epoch int) {
	t.Helper()
	if got, e, ok := replay.Journal(g, b); !ok || e != epoch || !isSameState(got, d) {
		t.Errorf("Journal: %v, %d, %t, not %v, %d", got, e, ok, d, epoch)
	}
}

// wantNoJournal holds that b is none, has no records, and is not replayed.
func wantNoJournal(t *testing.T, g api.Geo, b api.Block) {
	t.Helper()
	if d, epoch, ok := replay.Journal(g, b); ok || epoch != 0 || !isNoState(d) {
		t.Errorf("Journal: %v, %d, %t of no journal", d, epoch, ok)
	}
	wantRecords(t, g, b, nil)
	wantNone(t, g, []api.Block{b}, api.ErrNone)
}

func wantRecords(t *testing.T, g api.Geo, b api.Block, log [][]api.Rec) {
	t.Helper()
	if got := take(replay.Records(g, b), -1); !isSameLog(got, log) {
		t.Errorf("Records: %v, not %v", got, log)
	}
}

func wantReplay(t *testing.T, g api.Geo, l []api.Block, d api.State, m api.Meta) {
	t.Helper()
	got, where, e := replay.Replay(g, l)
	if e != api.OK || where != m || !isSameState(got, d) {
		t.Errorf("Replay: %v, %+v, %d, not %v, %+v", got, where, e, d, m)
	}
}

func wantNone(t *testing.T, g api.Geo, l []api.Block, code api.Code) {
	t.Helper()
	if d, m, e := replay.Replay(g, l); e != code || m != (api.Meta{}) || !isNoState(d) {
		t.Errorf("Replay: %v, %+v, %d, not %d", d, m, e, code)
	}
}

// wantWhole holds all three of a journal that has these records.
func wantWhole(t *testing.T, s shape, b api.Block, d api.State, epoch int, log [][]api.Rec) {
	t.Helper()
	wantJournal(t, s.g, b, d, epoch)
	wantRecords(t, s.g, b, log)
	wantReplay(t, s.g, []api.Block{b}, model(d, log), api.Meta{Block: 0, Epoch: epoch, Used: s.first + len(log)})
}

// notTelling answers p as pages that tell nothing, though all else of them is there.
func notTelling(p api.Page) (l []api.Page) {
	for _, what := range []int{api.PErased, api.PBad, 0, -1, -2, 5, 1<<32 + api.PGood, maxInt, minInt} {
		p.What = what
		l = append(l, p)
	}
	return append(l, api.Page{What: api.PErased}, api.Page{What: api.PBad}, api.Page{})
}

// ofOtherKinds answers p as pages of all other kinds, and of what is none.
func ofOtherKinds(p api.Page) (l []api.Page) {
	kind := p.Tag.Kind
	for _, other := range []int{api.KData, api.KFill, api.KSnap, api.KLog, 0, 5, -kind, 1<<32 + kind, maxInt, minInt} {
		if p.Tag.Kind = other; other != kind {
			l = append(l, p)
		}
	}
	return l
}

// ofOtherPlaces answers p as pages that were made for other places, those of so many less and more among them.
func ofOtherPlaces(p api.Page, first int) (l []api.Page) {
	place := p.Tag.Lba
	for _, other := range []int{place - 1, place + 1, place - first, place + first, -place - 1, place + 1<<32, mostLbas, maxInt, minInt} {
		p.Tag.Lba = other
		l = append(l, p)
	}
	return l
}

// ofOtherEpochs answers p as pages of other epochs.
func ofOtherEpochs(p api.Page) (l []api.Page) {
	epoch := p.Tag.Epoch
	for _, other := range []int{epoch - 1, epoch + 1, 0, -1, -epoch, epoch + 1<<32, maxInt, minInt} {
		p.Tag.Epoch = other
		l = append(l, p)
	}
	return l
}

// withData answers p with each of these data.
func withData(p api.Page, data ...string) (l []api.Page) {
	for _, s := range data {
		p.Data = s
		l = append(l, p)
	}
	return l
}

// Promises 16.1 and 16.2: the errors' numbers are those that the chapter lists.
func TestCodes(t *testing.T) {
	wantNone(t, api.Geo{}, nil, 60)
	wantNone(t, small.g, nil, 6)
}
