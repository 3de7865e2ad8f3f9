package replay_test

import (
	"testing"

	"deckle/api"
	"deckle/replay"
)

// epochs answers the least, a small and a great one.
func epochs() []int { return []int{1, 3, mostEpoch - 1} }

// Promise 16.1: what is durable by the first pages, and their epoch, whatever it is, with and without records behind them.
func TestJournal(t *testing.T) {
	for _, s := range shapes() {
		states := []api.State{
			all(s.g, 0, 0, 0, 0), some(s.g, 0), some(s.g, 5),
			all(s.g, mostSeq, mostEpoch, mostCount, mostCount), all(s.g, 1, 0, mostCount-1, 0),
		}
		for _, d := range states {
			for _, epoch := range epochs() {
				for _, n := range []int{0, 1, s.rest()} {
					wantJournal(t, s.g, journal(t, s, d, epoch, logOf(s, 1, n)), d, epoch)
				}
			}
		}
	}
}

// Promise 16.1: what stands on the first pages, written out byte by byte.
func TestJournalWritten(t *testing.T) {
	d := api.State{
		Floor:  []int{0x060504030201, 0, 1, mostSeq},
		Commit: []int{0x04030201, 0, 1, mostEpoch, 0, 0, 0, 7},
		Slc:    []int{0x030201, 0, 1, mostCount, 0, 0, 8, 0},
		Tlc:    []int{0x060504, 0, 1, mostCount, 0, 9, 0, 0},
	}
	var text string
	for _, v := range d.Floor {
		text += bytesOf(v, 6)
	}
	for i, v := range d.Commit {
		text += bytesOf(v, 4) + bytesOf(d.Slc[i], 3) + bytesOf(d.Tlc[i], 3)
	}
	text += string(make([]byte, 128-len(text)))
	b := api.Block{Mode: api.MSlc, Pages: []api.Page{
		{What: api.PFixed, Tag: api.Tag{Kind: api.KSnap, Lba: 0, Epoch: 9}, Data: text[:64]},
		{What: api.PGood, Tag: api.Tag{Kind: api.KSnap, Lba: 1, Epoch: 9}, Data: text[64:]},
	}}
	wantWhole(t, small, b, d, 9, nil)
}

// Promise 16.1: whether pages were put right, their numbers, and whether the block is bad, make no difference.
func TestJournalNotAsked(t *testing.T) {
	for _, s := range shapes() {
		b, d, log := full(t, s, 2, 7)
		for _, what := range []int{api.PGood, api.PFixed} {
			for place := range b.Pages {
				b.Pages[place].What = what
				b.Pages[place].Tag.Seq = []int{0, 1, mostSeq, -1}[place%4]
			}
			b.Bad = !b.Bad
			wantWhole(t, s, b, d, 7, log)
		}
	}
}

// Promises 16.1 and 16.2: of a geometry that may not be, nothing is a journal; also of another one than the journal's, if its first pages are none there.
func TestJournalGeo(t *testing.T) {
	for _, s := range shapes() {
		b, _, _ := full(t, s, 1, 3)
		for _, g := range badGeos() {
			for _, b := range []api.Block{b, {}, {Mode: api.MSlc}} {
				if d, epoch, ok := replay.Journal(g, b); ok || epoch != 0 || !isNoState(d) {
					t.Errorf("%+v: %v, %d, %t", g, d, epoch, ok)
				}
				wantRecords(t, g, b, nil)
			}
		}
		for _, other := range shapes() {
			if other.g.Bytes != s.g.Bytes || other.first > s.first {
				wantNoJournal(t, other.g, b)
			}
		}
	}
}

// Promise 16.1: a block of another mode is no journal, whatever its pages are.
func TestJournalMode(t *testing.T) {
	for _, s := range shapes() {
		b, _, _ := full(t, s, 1, 3)
		for _, mode := range []int{api.MNone, api.MTlc, 3, -1, 1<<32 + api.MSlc, maxInt, minInt} {
			b.Mode = mode
			wantNoJournal(t, s.g, b)
		}
	}
}

// Promise 16.1: of a block of fewer pages than the first ones there is no journal; of as many, of more, and of more than there are lines, there is.
func TestJournalPages(t *testing.T) {
	for _, s := range shapes() {
		d, log := some(s.g, 4), logOf(s, 4, s.rest()+3)
		b := journal(t, s, d, 3, log)
		for n := range len(b.Pages) + 1 {
			of := api.Block{Mode: api.MSlc, Pages: b.Pages[:n:n]}
			if n < s.first {
				wantNoJournal(t, s.g, of)
				continue
			}
			wantWhole(t, s, of, d, 3, log[:n-s.first])
		}
	}
}

// Promise 16.1: a block without pages is no journal, of any mode.
func TestJournalEmpty(t *testing.T) {
	for _, s := range shapes() {
		wantNoJournal(t, s.g, api.Block{})
		wantNoJournal(t, s.g, api.Block{Mode: api.MSlc, Pages: []api.Page{}})
		wantNoJournal(t, s.g, api.Block{Mode: api.MSlc, Bad: true, Pages: make([]api.Page, s.g.Lines)})
	}
}

// noFirst answers pages of which none may stand at that place among the first ones.
func noFirst(s shape, b api.Block, place int) (l []api.Page) {
	p := b.Pages[place]
	l = append(l, notTelling(p)...)
	l = append(l, ofOtherKinds(p)...)
	l = append(l, ofOtherPlaces(p, s.first)...)
	l = append(l, withData(p, "", p.Data[:1], p.Data[:len(p.Data)-1], p.Data[:len(p.Data)-8], p.Data+"\x00", p.Data+"12345678", p.Data+p.Data)...)
	for _, other := range ofOtherEpochs(p) {
		// Of one first page each epoch above 0 is the only one.
		if s.first > 1 || other.Tag.Epoch <= 0 {
			l = append(l, other)
		}
	}
	return l
}

// Promise 16.1: each of the first pages must tell, be of that kind, place and epoch, and have as many bytes.
func TestJournalBroken(t *testing.T) {
	for _, s := range shapes() {
		for _, epoch := range epochs() {
			b, d, log := full(t, s, 3, epoch)
			for _, place := range places(s.first) {
				for _, p := range noFirst(s, b, place) {
					wantNoJournal(t, s.g, changed(b, place, p))
				}
			}
			wantWhole(t, s, b, d, epoch, log)
		}
	}
}

// Promise 16.1: each single one of the first pages must be there.
func TestJournalEach(t *testing.T) {
	for _, s := range shapes() {
		b, _, _ := full(t, s, 3, 5)
		for place := range s.first {
			wantNoJournal(t, s.g, changed(b, place, api.Page{What: api.PBad}))
			p := b.Pages[place]
			p.Tag.Kind = api.KLog
			wantNoJournal(t, s.g, changed(b, place, p))
		}
	}
}

// Promise 16.1: behind what the first pages tell stand noughts.
func TestJournalNoughts(t *testing.T) {
	for _, s := range shapes() {
		tail := s.first*s.g.Bytes - 6*s.g.Lbas - 10*s.g.Blocks
		b, _, _ := full(t, s, 3, 5)
		last := b.Pages[s.first-1]
		for at := s.g.Bytes - tail; at < s.g.Bytes; at++ {
			data := []byte(last.Data)
			data[at] = 1
			wantNoJournal(t, s.g, changed(b, s.first-1, withData(last, string(data))[0]))
		}
	}
}

// Promise 16.1: the epoch is above 0, though all pages have the same one.
func TestJournalEpoch(t *testing.T) {
	for _, s := range shapes() {
		for _, epoch := range []int{0, -1, -3, minInt} {
			b, _, _ := full(t, s, 1, epoch)
			wantNoJournal(t, s.g, b)
		}
	}
}

// Promise 16.1: of one first page any epoch above 0 is the journal's; the records of another one are not its.
func TestJournalOneFirst(t *testing.T) {
	s := shapes()[1]
	b, d, _ := full(t, s, 1, 4)
	for _, epoch := range []int{3, 5, 1 << 20} {
		b.Pages[0].Tag.Epoch = epoch
		wantWhole(t, s, b, d, epoch, nil)
	}
}

// Promise 16.1: first pages that stand in another order are none, also where their places go along.
func TestJournalOrder(t *testing.T) {
	for _, s := range shapes() {
		for place := 1; place < s.first; place++ {
			b, _, _ := full(t, s, 1, 4)
			b.Pages[place-1], b.Pages[place] = b.Pages[place], b.Pages[place-1]
			wantNoJournal(t, s.g, b)
			b, _, _ = full(t, s, 1, 4)
			b.Pages = append(b.Pages[:place:place], b.Pages[place+1:]...)
			wantNoJournal(t, s.g, b)
		}
	}
}

// Promise 16.3: what stands behind the first pages makes no difference to them.
func TestJournalBehind(t *testing.T) {
	for _, s := range shapes() {
		b, d, _ := full(t, s, 6, 4)
		other, _, _ := full(t, s, 7, 9)
		for place := s.first; place < s.g.Lines; place++ {
			b.Pages[place] = other.Pages[place%s.first]
		}
		wantJournal(t, s.g, b, d, 4)
	}
}
