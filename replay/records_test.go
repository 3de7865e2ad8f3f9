package replay_test

import (
	"slices"
	"testing"

	"deckle/api"
	"deckle/replay"
)

// Promise 16.1: of a journal without a page behind its first ones, with one, with some and with as many as there are.
func TestRecords(t *testing.T) {
	for _, s := range shapes() {
		for n := range s.rest() + 1 {
			for _, epoch := range epochs() {
				d, log := some(s.g, n), logOf(s, n, n)
				wantWhole(t, s, journal(t, s, d, epoch, log), d, epoch, log)
			}
		}
	}
}

// Promise 16.1: broken off ahead of the first, behind it, in the midst and at the last; each one is gone through twice.
func TestRecordsStopped(t *testing.T) {
	for _, s := range shapes() {
		for _, n := range []int{0, 1, 2, s.rest()} {
			log := logOf(s, 8, n)
			records := replay.Records(s.g, journal(t, s, some(s.g, 1), 6, log))
			for range 2 {
				for stop := range n + 1 {
					if got := take(records, stop); !isSameLog(got, log[:stop]) {
						t.Errorf("the first %d of %d: %v", stop, n, got)
					}
				}
				if got := take(records, -1); !isSameLog(got, log) {
					t.Errorf("all of %d: %v", n, got)
				}
			}
		}
	}
}

// Promise 16.1: nested in itself, each one goes its own way.
func TestRecordsNested(t *testing.T) {
	b, _, log := full(t, small, 1, 3)
	records := replay.Records(small.g, b)
	var got [][]api.Rec
	for l := range records {
		got = append(got, l)
		if inner := take(records, -1); !isSameLog(inner, log) {
			t.Errorf("inside: %v", inner)
		}
	}
	if !isSameLog(got, log) {
		t.Errorf("outside: %v", got)
	}
}

// noSheets answers data that are no page of records, with good ones ahead of and behind what is wrong.
func noSheets(s shape) []string {
	n := s.g.Bytes
	one := recordOf(s.g, 1)
	good := sheetOf(n, one)
	whole := slices.Repeat([]api.Rec{one}, s.hold)
	return []string{
		"", "\x01", sheetOf(15, one), sheetOf(257, one), sheetOf(n),
		"\x00" + good[1:], "\x02" + good[1:], "\xff" + good[1:],
		bytesOf(s.hold+1, 1) + sheetOf(n, whole...)[1:],
		good[:n-1] + "\x01", good[:10] + "\x01" + good[11:], good[:10] + "\x80" + good[11:],
	}
}

// noRecords answers records that may not be, or not of the geometry.
func noRecords(g api.Geo) []api.Rec {
	return []api.Rec{
		{}, {Kind: 5, A: 1, B: 1}, {Kind: 255, A: 1, B: 1},
		{Kind: api.RTrim, A: g.Lbas, B: 1}, {Kind: api.RTrim, A: g.Lbas + 1, B: 1}, {Kind: api.RTrim, A: mostLbas, B: 1}, {Kind: api.RTrim, A: mostLbas + 1, B: 1},
		{Kind: api.RDelta, A: g.Lbas, B: 1}, {Kind: api.RDelta, A: mostLbas, B: 1}, {Kind: api.RDelta, A: 65535, B: 1},
		{Kind: api.RCommit, A: g.Blocks, B: 1}, {Kind: api.RCommit, A: 64, B: 1}, {Kind: api.RCommit, A: 1, B: 0}, {Kind: api.RCommit, A: 1, B: mostEpoch + 1},
		{Kind: api.RErase, A: g.Blocks, B: api.MSlc}, {Kind: api.RErase, A: 64, B: api.MTlc}, {Kind: api.RErase, A: 1, B: 0}, {Kind: api.RErase, A: 1, B: 3},
	}
}

// badSheets answers data with a record that may not be, or not of the geometry, at the first place, in the midst and at the last.
func badSheets(s shape) (l []string) {
	for _, r := range noRecords(s.g) {
		for _, many := range []int{1, s.hold} {
			for _, at := range places(many) {
				records := logOf(s, 0, 2)[1]
				records[at] = r
				l = append(l, sheetOf(s.g.Bytes, records...))
			}
		}
	}
	return l
}

// noLog answers pages of which none may stand at that place behind the first ones.
func noLog(s shape, b api.Block, place int) (l []api.Page) {
	p := b.Pages[place]
	l = append(l, notTelling(p)...)
	l = append(l, ofOtherKinds(p)...)
	l = append(l, ofOtherPlaces(p, s.first)...)
	l = append(l, ofOtherEpochs(p)...)
	l = append(l, withData(p, noSheets(s)...)...)
	return append(l, withData(p, badSheets(s)...)...)
}

// Promises 16.1 to 16.3: the records go up to the first page that is none of them, wherever it stands, with good ones behind it.
func TestRecordsBroken(t *testing.T) {
	for _, s := range shapes() {
		b, d, log := full(t, s, 3, 5)
		for _, at := range places(s.rest()) {
			for _, p := range noLog(s, b, s.first+at) {
				wantWhole(t, s, changed(b, s.first+at, p), d, 5, log[:at])
			}
		}
		wantWhole(t, s, b, d, 5, log)
	}
}

// Promise 16.1: each single page may be the first one that is none.
func TestRecordsEach(t *testing.T) {
	for _, s := range shapes() {
		b, d, log := full(t, s, 3, 5)
		for at := range s.rest() {
			wantWhole(t, s, changed(b, s.first+at, api.Page{What: api.PErased}), d, 5, log[:at])
			p := b.Pages[s.first+at]
			p.Tag.Epoch++
			wantWhole(t, s, changed(b, s.first+at, p), d, 5, log[:at])
		}
	}
}

// Promise 16.1: pages numbered from behind the first ones on are no records, though all of them are numbered so.
func TestRecordsPlaces(t *testing.T) {
	for _, s := range shapes() {
		b, d, _ := full(t, s, 3, 5)
		for place := s.first; place < s.g.Lines; place++ {
			b.Pages[place].Tag.Lba = place - s.first
		}
		wantWhole(t, s, b, d, 5, nil)
	}
}

// Promise 16.1: pages that stand in another order are not told behind the first one that stands elsewhere.
func TestRecordsOrder(t *testing.T) {
	for _, s := range shapes() {
		for at := 1; at < s.rest(); at++ {
			b, d, log := full(t, s, 3, 5)
			place := s.first + at
			b.Pages[place-1], b.Pages[place] = b.Pages[place], b.Pages[place-1]
			wantWhole(t, s, b, d, 5, log[:at-1])
		}
	}
}

// Promise 16.1: records of the first and the last sector, and block, with the least and the greatest numbers, may be.
func TestRecordsEdges(t *testing.T) {
	for _, s := range shapes() {
		lba, block := s.g.Lbas-1, s.g.Blocks-1
		for _, r := range []api.Rec{
			{Kind: api.RTrim, A: 0, B: 0}, {Kind: api.RTrim, A: lba, B: mostSeq}, {Kind: api.RDelta, A: 0, B: mostSeq}, {Kind: api.RDelta, A: lba, B: 0},
			{Kind: api.RCommit, A: 0, B: 1}, {Kind: api.RCommit, A: block, B: mostEpoch},
			{Kind: api.RErase, A: 0, B: api.MSlc}, {Kind: api.RErase, A: block, B: api.MTlc},
		} {
			d, log := some(s.g, 2), [][]api.Rec{slices.Repeat([]api.Rec{r}, s.hold)}
			wantWhole(t, s, journal(t, s, d, 5, log), d, 5, log)
		}
	}
}

// Promise 16.1, as its words say most plainly: a page of records is one of any size of chapter 12.
func TestRecordsSizes(t *testing.T) {
	log := [][]api.Rec{{recordOf(small.g, 1)}, {recordOf(small.g, 2)}, {recordOf(small.g, 3)}}
	b := journal(t, small, some(small.g, 1), 5, log)
	for _, n := range []int{16, 17, 24, 63, 65, 256} {
		b.Pages[3].Data = sheetOf(n, log[1]...)
		wantWhole(t, small, b, some(small.g, 1), 5, log)
	}
}

// Rule R4: what is handed in is not changed, nor kept, and what lies behind a list's length is not read.
func TestArguments(t *testing.T) {
	for _, s := range shapes() {
		b, d, log := full(t, s, 3, 5)
		before := slices.Clone(b.Pages)
		// The page behind the last one would be the next one of records.
		of := api.Block{Mode: api.MSlc, Pages: b.Pages[:len(b.Pages)-1]}
		records := replay.Records(s.g, of)
		wantWhole(t, s, of, d, 5, log[:len(log)-1])
		if !slices.Equal(b.Pages, before) {
			t.Error("the pages were changed")
		}
		for place := range b.Pages {
			b.Pages[place] = api.Page{}
		}
		of.Mode = api.MTlc
		if got := take(records, -1); !isSameLog(got, log[:len(log)-1]) {
			t.Errorf("of what was changed later: %v", got)
		}
	}
}

// Rule R4: each list that is told is new memory, spare room too.
func TestRecordsAnswers(t *testing.T) {
	b, d, log := full(t, small, 3, 5)
	records := replay.Records(small.g, b)
	var got [][]api.Rec
	for l := range records {
		got = append(got, slices.Clone(l))
		for i := range l[:cap(l)] {
			l[:cap(l)][i] = api.Rec{Kind: 9}
		}
	}
	if !isSameLog(got, log) || !isSameLog(take(records, -1), log) {
		t.Errorf("what is told is shared: %v", got)
	}
	wantWhole(t, small, b, d, 5, log)
	kept := take(records, -1)
	for i, l := range kept {
		for k := range l {
			l[k] = api.Rec{Kind: 9}
		}
		if !isSameLog(kept[i+1:], log[i+1:]) {
			t.Errorf("behind %d: %v", i, kept[i+1:])
		}
	}
}

// Rule R4: what is durable is told in new memory each time, spare room too.
func TestStateAnswers(t *testing.T) {
	b, d, log := full(t, small, 3, 5)
	for range 2 {
		first, _, _ := replay.Journal(small.g, b)
		second, _, _ := replay.Replay(small.g, []api.Block{b})
		for _, s := range []api.State{first, second} {
			for _, l := range [][]int{s.Floor, s.Commit, s.Slc, s.Tlc} {
				for i := range l[:cap(l)] {
					l[:cap(l)][i] = -1
				}
			}
		}
		wantWhole(t, small, b, d, 5, log)
	}
	s, _, _ := replay.Journal(small.g, b)
	wantApart(t, s, d)
	s, _, _ = replay.Replay(small.g, []api.Block{b})
	wantApart(t, s, model(d, log))
}

// wantApart holds that the lists of s, which is want, share no memory.
func wantApart(t *testing.T, s, want api.State) {
	t.Helper()
	lists, wants := [][]int{s.Floor, s.Commit, s.Slc, s.Tlc}, [][]int{want.Floor, want.Commit, want.Slc, want.Tlc}
	for i, l := range lists {
		for k := range l[:cap(l)] {
			l[:cap(l)][k] = -1
		}
		for k := i + 1; k < len(lists); k++ {
			if !slices.Equal(lists[k], wants[k]) {
				t.Errorf("the list %d shares what the list %d has", k, i)
			}
		}
	}
}
