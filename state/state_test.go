package state_test

import (
	"math"
	"slices"
	"testing"

	"deckle/api"
	"deckle/state"
)

const maxInt, minInt = math.MaxInt, math.MinInt

// The limits, written out as the document says them.
const (
	mostBlocks = 64
	mostLbas   = 4096
	mostSeq    = 281474976710655
	mostEpoch  = 4294967295
	mostCount  = 16777215
)

// small is a geometry of the fewest blocks.
var small = api.Geo{Blocks: 8, Lines: 6, Bytes: 64, Lbas: 4, Spare: 0, Wear: 2}

// geos answers geometries that may be: the fewest and the most blocks and sectors, fewer sectors than blocks, as many, and more.
func geos() []api.Geo {
	return []api.Geo{
		small,
		{Blocks: 9, Lines: 10, Bytes: 64, Lbas: 20, Spare: 1, Wear: 4},
		{Blocks: 8, Lines: 6, Bytes: 48, Lbas: 1, Spare: 0, Wear: 2},
		{Blocks: 8, Lines: 12, Bytes: 16, Lbas: 8, Spare: 0, Wear: 2},
		{Blocks: 24, Lines: 64, Bytes: 40, Lbas: 100, Spare: 16, Wear: 1000},
		{Blocks: 64, Lines: 64, Bytes: 256, Lbas: 3, Spare: 16, Wear: 1000},
		{Blocks: 64, Lines: 64, Bytes: 256, Lbas: 2453, Spare: 16, Wear: 1000},
	}
}

// badGeos answers geometries that may not be.
func badGeos() []api.Geo {
	return []api.Geo{
		{}, {Blocks: 7, Lines: 6, Bytes: 64, Lbas: 4, Wear: 2}, {Blocks: 65, Lines: 20, Bytes: 256, Lbas: 4, Wear: 2},
		{Blocks: 8, Lines: 5, Bytes: 256, Lbas: 4, Wear: 2}, {Blocks: 8, Lines: 65, Bytes: 64, Lbas: 4, Wear: 2},
		{Blocks: 8, Lines: 64, Bytes: 8, Lbas: 4, Wear: 2}, {Blocks: 8, Lines: 6, Bytes: 60, Lbas: 4, Wear: 2},
		{Blocks: 8, Lines: 6, Bytes: 264, Lbas: 4, Wear: 2}, {Blocks: 8, Lines: 6, Bytes: 64, Lbas: 0, Wear: 2},
		{Blocks: 8, Lines: 6, Bytes: 64, Lbas: -1, Wear: 2}, {Blocks: 8, Lines: 6, Bytes: 256, Lbas: 19, Wear: 2},
		{Blocks: 8, Lines: 6, Bytes: 64, Lbas: 4, Spare: 1, Wear: 2}, {Blocks: 8, Lines: 6, Bytes: 64, Lbas: 4, Spare: -1, Wear: 2},
		{Blocks: 8, Lines: 6, Bytes: 64, Lbas: 4, Wear: 1}, {Blocks: 8, Lines: 6, Bytes: 64, Lbas: 4, Wear: 1001},
		{Blocks: 8, Lines: 6, Bytes: 48, Lbas: 4, Wear: 2}, {Blocks: 8, Lines: 6, Bytes: 64, Lbas: 9, Wear: 2},
		{Blocks: maxInt, Lines: maxInt, Bytes: maxInt, Lbas: maxInt, Spare: maxInt, Wear: maxInt},
		{Blocks: minInt, Lines: minInt, Bytes: minInt, Lbas: minInt, Spare: minInt, Wear: minInt},
		{Blocks: 8, Lines: 6, Bytes: 64, Lbas: maxInt, Wear: 2}, {Blocks: maxInt, Lines: 6, Bytes: 64, Lbas: 4, Wear: 2},
	}
}

// numbers answers n different numbers below many, none of them 0; k tells which.
func numbers(n, many, k int) []int {
	l := make([]int, n)
	for i := range l {
		l[i] = 1 + (k*0x0d0b0907+i*0x01030507+0x060504)%(many-1)
	}
	return l
}

// some answers what fits g; k tells which.
func some(g api.Geo, k int) api.State {
	return api.State{
		Floor: numbers(g.Lbas, mostSeq, k), Commit: numbers(g.Blocks, mostEpoch, k+1),
		Slc: numbers(g.Blocks, mostCount, k+2), Tlc: numbers(g.Blocks, mostCount, k+3),
	}
}

// all answers what is durable where all numbers are the same ones.
func all(g api.Geo, floor, commit, slc, tlc int) api.State {
	return api.State{
		Floor: slices.Repeat([]int{floor}, g.Lbas), Commit: slices.Repeat([]int{commit}, g.Blocks),
		Slc: slices.Repeat([]int{slc}, g.Blocks), Tlc: slices.Repeat([]int{tlc}, g.Blocks),
	}
}

func noughts(g api.Geo) api.State { return all(g, 0, 0, 0, 0) }

// states answers several that fit g, the least and the greatest among them.
func states(g api.Geo) []api.State {
	return []api.State{noughts(g), some(g, 0), some(g, 5), all(g, mostSeq, mostEpoch, mostCount, mostCount), all(g, 1, 0, mostCount-1, 0)}
}

// list answers a place to put one of s's lists: Floor, Commit, Slc, Tlc.
func list(s *api.State, i int) *[]int { return []*[]int{&s.Floor, &s.Commit, &s.Slc, &s.Tlc}[i] }

const lists = 4

// most answers the greatest number of a list.
func most(i int) int { return []int{mostSeq, mostEpoch, mostCount, mostCount}[i] }

func clone(s api.State) api.State {
	return api.State{Floor: slices.Clone(s.Floor), Commit: slices.Clone(s.Commit), Slc: slices.Clone(s.Slc), Tlc: slices.Clone(s.Tlc)}
}

func isSame(a, b api.State) bool {
	for i := range lists {
		if !slices.Equal(*list(&a, i), *list(&b, i)) {
			return false
		}
	}
	return true
}

// places answers the first place of n, one in the midst, and the last one.
func places(n int) []int { return []int{0, n / 2, n - 1} }

// outside answers numbers that are none of n.
func outside(n int) []int {
	return []int{-1, -2, -n, -n - 1, minInt, minInt + 1, n, n + 1, 2 * n, 1 << 20, 1 << 32, 1<<32 + 1, maxInt, maxInt - 1}
}

func newOf(t *testing.T, g api.Geo) *state.Keeper {
	t.Helper()
	k, e := state.New(g)
	if k == nil || e != api.OK {
		t.Fatalf("New(%+v): %v, %d", g, k, e)
	}
	return k
}

func keeperOf(t *testing.T, g api.Geo, s api.State) *state.Keeper {
	t.Helper()
	k, e := state.Of(g, s)
	if k == nil || e != api.OK {
		t.Fatalf("Of(%+v, %v): %v, %d", g, s, k, e)
	}
	return k
}

func wantNoKeeper(t *testing.T, k *state.Keeper, e, code api.Code) {
	t.Helper()
	if k != nil || e != code {
		t.Errorf("%v, %d, not %d", k, e, code)
	}
}

// want holds that k tells want in each of its ways, and of numbers that are none 0.
func want(t *testing.T, k *state.Keeper, want api.State) {
	t.Helper()
	if s := k.State(); !isSame(s, want) {
		t.Errorf("State: %v, not %v", s, want)
	}
	for lba, v := range want.Floor {
		if got := k.Floor(lba); got != v {
			t.Errorf("Floor(%d): %d, not %d", lba, got, v)
		}
	}
	for block, v := range want.Commit {
		if got := k.Commit(block); got != v {
			t.Errorf("Commit(%d): %d, not %d", block, got, v)
		}
		if slc, tlc := k.Wear(block); slc != want.Slc[block] || tlc != want.Tlc[block] {
			t.Errorf("Wear(%d): %d, %d, not %d, %d", block, slc, tlc, want.Slc[block], want.Tlc[block])
		}
	}
	wantNone(t, k, len(want.Floor), len(want.Commit))
}

// wantNone holds that k tells 0 of what is none of so many sectors and blocks.
func wantNone(t *testing.T, k *state.Keeper, lbas, blocks int) {
	t.Helper()
	for _, lba := range outside(lbas) {
		if got := k.Floor(lba); got != 0 {
			t.Errorf("Floor(%d): %d", lba, got)
		}
	}
	for _, block := range outside(blocks) {
		slc, tlc := k.Wear(block)
		if got := k.Commit(block); got != 0 || slc != 0 || tlc != 0 {
			t.Errorf("of block %d: %d, %d, %d", block, got, slc, tlc)
		}
	}
}

// model answers s changed by r, which is a record of a sector or block that there is, as the chapter says it.
func model(s api.State, r api.Rec) api.State {
	s = clone(s)
	if r.Kind == api.RTrim || r.Kind == api.RDelta {
		if s.Floor[r.A] < r.B {
			s.Floor[r.A] = r.B
		}
	}
	if r.Kind == api.RCommit {
		s.Commit[r.A] = r.B
	}
	if r.Kind == api.RErase {
		s.Commit[r.A] = 0
		if r.B == api.MSlc && s.Slc[r.A] < mostCount {
			s.Slc[r.A]++
		}
		if r.B == api.MTlc && s.Tlc[r.A] < mostCount {
			s.Tlc[r.A]++
		}
	}
	return s
}

// wantApply holds that r changes a keeper of s to what is answered, and nothing else.
func wantApply(t *testing.T, g api.Geo, s api.State, r api.Rec) api.State {
	t.Helper()
	k := keeperOf(t, g, s)
	if e := k.Apply(r); e != api.OK {
		t.Errorf("Apply(%+v) of %+v: %d", r, g, e)
	}
	after := model(s, r)
	want(t, k, after)
	return after
}

// wantRefused holds that r is refused by a keeper of s, and changes nothing.
func wantRefused(t *testing.T, g api.Geo, s api.State, r api.Rec) {
	t.Helper()
	k := keeperOf(t, g, s)
	if e := k.Apply(r); e != api.ErrRec {
		t.Errorf("Apply(%+v) of %+v: %d", r, g, e)
	}
	want(t, k, s)
}

// Promise 14.1: the errors' numbers are those that the chapter lists.
func TestCodes(t *testing.T) {
	if _, e := state.New(api.Geo{}); e != 60 {
		t.Error(e)
	}
	if _, e := state.Of(api.Geo{}, api.State{}); e != 60 {
		t.Error(e)
	}
	if _, e := state.Of(small, api.State{}); e != 130 {
		t.Error(e)
	}
	k := newOf(t, small)
	if e := k.Apply(api.Rec{}); e != 110 {
		t.Error(e)
	}
	if e := k.All(make([]api.Rec, 1)); e != 110 {
		t.Error(e)
	}
}

// Promise 14.1: the chapter's example.
func TestExample(t *testing.T) {
	for _, g := range []api.Geo{small, {Blocks: 9, Lines: 10, Bytes: 64, Lbas: 20, Spare: 1, Wear: 4}} {
		k := newOf(t, g)
		for _, r := range []api.Rec{{Kind: api.RTrim, A: 1, B: 5}, {Kind: api.RDelta, A: 1, B: 3}} {
			if e := k.Apply(r); e != api.OK {
				t.Errorf("Apply(%+v): %d", r, e)
			}
		}
		if k.Floor(1) != 5 {
			t.Errorf("Floor(1): %d", k.Floor(1))
		}
		s := noughts(g)
		s.Floor[1] = 5
		want(t, k, s)
	}
}

// Promise 14.1: a keeper of nothing yet: as many numbers as there must be, all 0.
func TestNew(t *testing.T) {
	for _, g := range geos() {
		k := newOf(t, g)
		s := k.State()
		if len(s.Floor) != g.Lbas || len(s.Commit) != g.Blocks || len(s.Slc) != g.Blocks || len(s.Tlc) != g.Blocks {
			t.Errorf("%+v: %v", g, s)
		}
		want(t, k, noughts(g))
	}
}

// Promise 14.1: geometries that may not be have no keeper, whatever fits.
func TestNoGeo(t *testing.T) {
	for _, g := range badGeos() {
		k, e := state.New(g)
		wantNoKeeper(t, k, e, api.ErrGeo)
		for _, s := range []api.State{{}, noughts(small), some(small, 0), all(small, -1, -1, -1, -1), {Floor: []int{-1}}} {
			k, e = state.Of(g, s)
			wantNoKeeper(t, k, e, api.ErrGeo)
		}
	}
	// As many numbers as the geometry says, which may not be for another reason.
	for _, g := range []api.Geo{
		{Blocks: 8, Lines: 5, Bytes: 256, Lbas: 4, Wear: 2}, {Blocks: 8, Lines: 6, Bytes: 64, Lbas: 4, Wear: 1}, {Blocks: 7, Lines: 6, Bytes: 64, Lbas: 4, Wear: 2},
	} {
		k, e := state.Of(g, some(g, 0))
		wantNoKeeper(t, k, e, api.ErrGeo)
	}
}

// Promise 14.1: what fits, the least and the greatest numbers among it.
func TestOf(t *testing.T) {
	for _, g := range geos() {
		for _, s := range states(g) {
			want(t, keeperOf(t, g, s), s)
		}
		for i := range lists {
			ok := some(g, 1)
			for _, at := range places(len(*list(&ok, i))) {
				for _, v := range []int{0, 1, most(i) - 1, most(i)} {
					s := clone(ok)
					(*list(&s, i))[at] = v
					want(t, keeperOf(t, g, s), s)
				}
			}
		}
	}
}

// Promise 14.1: what does not fit: one number fewer, one more, none, and numbers that may not be, in each list.
func TestOfNoFit(t *testing.T) {
	for _, g := range geos() {
		k, e := state.Of(g, api.State{})
		wantNoKeeper(t, k, e, api.ErrSnap)
		for i := range lists {
			ok := some(g, 1)
			l := *list(&ok, i)
			others := [][]int{nil, {}, l[:len(l)-1], l[1:], append(slices.Clone(l), 0), append(slices.Clone(l), l...)}
			for _, at := range places(len(l)) {
				for _, v := range []int{-1, minInt, -most(i), most(i) + 1, 2 * (most(i) + 1), maxInt} {
					other := slices.Clone(l)
					other[at] = v
					others = append(others, other)
				}
			}
			for _, other := range others {
				s := clone(ok)
				*list(&s, i) = other
				k, e := state.Of(g, s)
				wantNoKeeper(t, k, e, api.ErrSnap)
			}
		}
	}
}

// sectors are the kinds of records that lift a floor.
func sectors() []int { return []int{api.RTrim, api.RDelta} }

// Promise 14.1: trims and deltas of a number that is less than the floor, the same, and greater, of the first sector, one in the midst, and the last one.
func TestLift(t *testing.T) {
	for _, g := range geos() {
		for _, kind := range sectors() {
			for _, lba := range places(g.Lbas) {
				for _, floor := range []int{0, 1, 2, 1000, 1 << 32, mostSeq - 1, mostSeq} {
					s := some(g, 2)
					s.Floor[lba] = floor
					for _, seq := range []int{0, 1, floor - 1, floor, floor + 1, 1 << 32, 1<<32 + 5, mostSeq - 1, mostSeq} {
						if seq < 0 || seq > mostSeq {
							continue
						}
						after := wantApply(t, g, s, api.Rec{Kind: kind, A: lba, B: seq})
						if after.Floor[lba] != max(floor, seq) {
							t.Errorf("%d of %d by %d", after.Floor[lba], floor, seq)
						}
					}
				}
			}
		}
	}
}

// Promise 14.1: trims and deltas of a sector that there is not, though the record may be.
func TestNoSector(t *testing.T) {
	for _, g := range geos() {
		for _, s := range states(g) {
			for _, kind := range sectors() {
				for _, lba := range []int{g.Lbas, g.Lbas + 1, mostLbas - 1, mostLbas} {
					for _, seq := range []int{0, 1, mostSeq} {
						wantRefused(t, g, s, api.Rec{Kind: kind, A: lba, B: seq})
					}
				}
			}
		}
	}
}

// Promise 14.1: a commit of the first block, one in the midst, and the last one, of an epoch that is greater than what stands there, the same, and less.
func TestCommit(t *testing.T) {
	for _, g := range geos() {
		for _, block := range places(g.Blocks) {
			for _, old := range []int{0, 1, 2, 1000, mostEpoch - 1, mostEpoch} {
				s := some(g, 3)
				s.Commit[block] = old
				for _, epoch := range []int{1, 2, old - 1, old, old + 1, 999, mostEpoch - 1, mostEpoch} {
					if epoch < 1 || epoch > mostEpoch {
						continue
					}
					after := wantApply(t, g, s, api.Rec{Kind: api.RCommit, A: block, B: epoch})
					if after.Commit[block] != epoch {
						t.Errorf("%d of %d by %d", after.Commit[block], old, epoch)
					}
				}
			}
		}
	}
}

// Promise 14.1: an erasure of each mode, of a count of 0, of one below the greatest, and of the greatest; the block counts no more.
func TestErase(t *testing.T) {
	for _, g := range geos() {
		for _, block := range places(g.Blocks) {
			for _, old := range []int{0, 1, 255, 65535, mostCount - 2, mostCount - 1, mostCount} {
				for _, commit := range []int{0, 1, mostEpoch} {
					s := some(g, 4)
					s.Slc[block], s.Tlc[block], s.Commit[block] = old, old, commit
					slc := wantApply(t, g, s, api.Rec{Kind: api.RErase, A: block, B: api.MSlc})
					tlc := wantApply(t, g, s, api.Rec{Kind: api.RErase, A: block, B: api.MTlc})
					next := min(old+1, mostCount)
					if slc.Slc[block] != next || slc.Tlc[block] != old || slc.Commit[block] != 0 {
						t.Errorf("%v", slc)
					}
					if tlc.Slc[block] != old || tlc.Tlc[block] != next || tlc.Commit[block] != 0 {
						t.Errorf("%v", tlc)
					}
				}
			}
		}
	}
}

// Promise 14.1: commits and erasures of a block that there is not, though the record may be.
func TestNoBlock(t *testing.T) {
	for _, g := range geos() {
		for _, s := range states(g) {
			for _, block := range []int{g.Blocks, g.Blocks + 1, mostBlocks - 1, mostBlocks} {
				if block < g.Blocks {
					continue
				}
				for _, epoch := range []int{1, 2, mostEpoch} {
					wantRefused(t, g, s, api.Rec{Kind: api.RCommit, A: block, B: epoch})
				}
				wantRefused(t, g, s, api.Rec{Kind: api.RErase, A: block, B: api.MSlc})
				wantRefused(t, g, s, api.Rec{Kind: api.RErase, A: block, B: api.MTlc})
			}
		}
	}
}

// bad answers records that may not be, of sectors and blocks that there are of all geometries, and of others.
func bad() []api.Rec {
	var l []api.Rec
	for _, kind := range []int{0, -1, 5, 6, 255, 256, 257, minInt, maxInt} {
		for _, b := range []int{0, 1, 2, 3, mostSeq} {
			l = append(l, api.Rec{Kind: kind, A: 0, B: b}, api.Rec{Kind: kind, A: 100, B: b})
		}
	}
	for _, kind := range []int{api.RTrim, api.RDelta, api.RCommit, api.RErase} {
		for _, a := range []int{-1, -2, minInt, mostLbas + 1, 1 << 16, 1 << 32, maxInt} {
			l = append(l, api.Rec{Kind: kind, A: a, B: 1})
		}
		for _, b := range []int{-1, minInt, mostSeq + 1, maxInt} {
			l = append(l, api.Rec{Kind: kind, A: 0, B: b})
		}
	}
	for _, b := range []int{0, mostEpoch + 1, mostSeq} {
		l = append(l, api.Rec{Kind: api.RCommit, A: 0, B: b})
	}
	for _, mode := range []int{0, 3, 4, 255, mostEpoch, mostSeq} {
		l = append(l, api.Rec{Kind: api.RErase, A: 0, B: mode})
	}
	return l
}

// Promise 14.1: records that may not be.
func TestNoRecord(t *testing.T) {
	for _, g := range geos() {
		for _, s := range []api.State{noughts(g), some(g, 1), all(g, mostSeq, mostEpoch, mostCount, mostCount)} {
			for _, r := range bad() {
				wantRefused(t, g, s, r)
			}
		}
	}
}

// Promise 14.1: each kind, of each sector and block, one behind another.
func TestApplyEach(t *testing.T) {
	for _, g := range []api.Geo{small, {Blocks: 9, Lines: 10, Bytes: 64, Lbas: 20, Spare: 1, Wear: 4}} {
		k, s := newOf(t, g), noughts(g)
		for i := range max(g.Lbas, g.Blocks) + 2 {
			for _, r := range []api.Rec{{Kind: api.RTrim, A: i, B: 3 * i}, {Kind: api.RCommit, A: i, B: 70 + i}, {Kind: api.RDelta, A: i, B: 2*i + 5}, {Kind: api.RErase, A: i, B: 1 + i%2}, {Kind: api.RCommit, A: i, B: 30 + i}} {
				ok := i < g.Lbas
				if r.Kind == api.RCommit || r.Kind == api.RErase {
					ok = i < g.Blocks
				}
				e := k.Apply(r)
				if (e == api.OK) != ok {
					t.Errorf("Apply(%+v): %d", r, e)
				}
				if ok {
					s = model(s, r)
				}
				want(t, k, s)
			}
		}
	}
}

// chance answers numbers one behind another, each below many, by a rule alone.
func chance(seed uint64) func(many int) int {
	return func(many int) int {
		seed = seed*6364136223846793005 + 1442695040888963407
		return int(seed>>33) % many
	}
}

// record answers one that changes something of g.
func record(g api.Geo, next func(int) int) api.Rec {
	switch kind := 1 + next(4); kind {
	case api.RCommit:
		return api.Rec{Kind: kind, A: next(g.Blocks), B: 1 + next(50)}
	case api.RErase:
		return api.Rec{Kind: kind, A: next(g.Blocks), B: 1 + next(2)}
	default:
		return api.Rec{Kind: kind, A: next(g.Lbas), B: next(50)}
	}
}

// Promise 14.1: long lists of records, one by one and at once.
func TestLong(t *testing.T) {
	for i, g := range geos() {
		if g.Lbas > 100 {
			continue
		}
		for seed := range 4 {
			next := chance(uint64(10*i + seed))
			one, s := newOf(t, g), noughts(g)
			var l []api.Rec
			for range 150 {
				r := record(g, next)
				l = append(l, r)
				if e := one.Apply(r); e != api.OK {
					t.Fatalf("Apply(%+v): %d", r, e)
				}
				s = model(s, r)
				want(t, one, s)
			}
			whole := newOf(t, g)
			if e := whole.All(l); e != api.OK {
				t.Errorf("All: %d", e)
			}
			want(t, whole, s)
		}
	}
}

// Promise 14.1: no record, one, and several.
func TestAll(t *testing.T) {
	l := []api.Rec{{Kind: api.RTrim, A: 1, B: 5}, {Kind: api.RCommit, A: 7, B: 9}, {Kind: api.RErase, A: 7, B: api.MTlc}, {Kind: api.RDelta, A: 1, B: 6}, {Kind: api.RCommit, A: 0, B: 3}}
	for _, begin := range states(small) {
		for _, none := range [][]api.Rec{nil, {}, l[:0]} {
			k := keeperOf(t, small, begin)
			if e := k.All(none); e != api.OK {
				t.Errorf("All of none: %d", e)
			}
			want(t, k, begin)
		}
		s := begin
		for n := range l {
			s = model(s, l[n])
			k := keeperOf(t, small, begin)
			if e := k.All(l[:n+1]); e != api.OK {
				t.Errorf("All(%v): %d", l[:n+1], e)
			}
			want(t, k, s)
		}
	}
}

// Promise 14.1: one of several is refused: those ahead of it count, those behind it do not.
func TestAllRefused(t *testing.T) {
	l := []api.Rec{{Kind: api.RTrim, A: 1, B: 5}, {Kind: api.RCommit, A: 7, B: 9}, {Kind: api.RErase, A: 6, B: api.MTlc}, {Kind: api.RDelta, A: 2, B: 6}, {Kind: api.RErase, A: 6, B: api.MTlc}}
	refused := append(bad(), api.Rec{Kind: api.RTrim, A: 4, B: 1}, api.Rec{Kind: api.RDelta, A: 4, B: 1}, api.Rec{Kind: api.RCommit, A: 8, B: 1}, api.Rec{Kind: api.RErase, A: 8, B: 1})
	for at := range len(l) + 1 {
		s := noughts(small)
		for _, r := range l[:at] {
			s = model(s, r)
		}
		for _, r := range refused {
			k := newOf(t, small)
			if e := k.All(slices.Insert(slices.Clone(l), at, r)); e != api.ErrRec {
				t.Errorf("All with %+v at %d: %d", r, at, e)
			}
			want(t, k, s)
			// What was refused is no hindrance to what comes later.
			if e := k.All(l[at:]); e != api.OK {
				t.Errorf("All(%v): %d", l[at:], e)
			}
		}
	}
	// Several that are refused: the first one ends it.
	k := newOf(t, small)
	if e := k.All([]api.Rec{l[0], {}, l[1], {Kind: 9}, l[2]}); e != api.ErrRec {
		t.Errorf("All: %d", e)
	}
	want(t, k, model(noughts(small), l[0]))
}

// Promise 14.2: numbers that are none of a keeper all of whose numbers are great.
func TestNone(t *testing.T) {
	for _, g := range geos() {
		k := keeperOf(t, g, all(g, mostSeq, mostEpoch, mostCount, mostCount))
		wantNone(t, k, g.Lbas, g.Blocks)
		slc, tlc := k.Wear(g.Blocks - 1)
		if k.Floor(g.Lbas-1) != mostSeq || k.Commit(g.Blocks-1) != mostEpoch || slc != mostCount || tlc != mostCount {
			t.Errorf("of the last ones of %+v: %v", g, k.State())
		}
		// The limits themselves are none of any geometry's.
		if k.Floor(mostLbas) != 0 || k.Commit(mostBlocks) != 0 {
			t.Errorf("of the limits: %d, %d", k.Floor(mostLbas), k.Commit(mostBlocks))
		}
	}
}

// Promise 14.2: what is asked changes nothing, and is told the same again.
func TestAskedAgain(t *testing.T) {
	for _, g := range geos() {
		k := keeperOf(t, g, some(g, 7))
		for range 3 {
			want(t, k, some(g, 7))
		}
	}
}

// withSpare answers s with room behind its lists, in which a number stands.
func withSpare(s api.State) api.State {
	s = clone(s)
	for i := range lists {
		l := list(&s, i)
		*l = append(slices.Clip(*l), 77)[:len(*l)]
	}
	return s
}

// overwrite puts v into each number of s, its spare room too.
func overwrite(s api.State, v int) {
	for i := range lists {
		l := *list(&s, i)
		l = l[:cap(l)]
		for at := range l {
			l[at] = v
		}
	}
}

// Rule R4: what was handed to Of is neither changed nor kept, its spare room too.
func TestGivenIsNotKept(t *testing.T) {
	for _, g := range geos() {
		given := withSpare(some(g, 1))
		k := keeperOf(t, g, given)
		s := clone(given)
		for _, r := range []api.Rec{{Kind: api.RTrim, A: 0, B: mostSeq}, {Kind: api.RCommit, A: 1, B: mostEpoch}, {Kind: api.RErase, A: 2, B: api.MSlc}, {Kind: api.RErase, A: 3, B: api.MTlc}} {
			k.Apply(r)
			s = model(s, r)
		}
		if !isSame(given, some(g, 1)) {
			t.Errorf("changed to %v", given)
		}
		for i := range lists {
			if l := *list(&given, i); l[:len(l)+1][len(l)] != 77 {
				t.Errorf("behind list %d: changed", i)
			}
		}
		overwrite(given, 3)
		want(t, k, s)
	}
}

// Rule R4: a list whose numbers stand in one memory with those of another is taken as any other.
func TestGivenShares(t *testing.T) {
	l := numbers(8, mostCount, 4)
	k := keeperOf(t, small, api.State{Floor: l[:4], Commit: l, Slc: l, Tlc: l})
	want(t, k, api.State{Floor: l[:4], Commit: l, Slc: l, Tlc: l})
	if e := k.Apply(api.Rec{Kind: api.RErase, A: 1, B: api.MSlc}); e != api.OK {
		t.Error(e)
	}
	want(t, k, model(api.State{Floor: l[:4], Commit: l, Slc: l, Tlc: l}, api.Rec{Kind: api.RErase, A: 1, B: api.MSlc}))
}

// Rule R4: what State answered is new memory, and shares none with another answer.
func TestAnswerIsNew(t *testing.T) {
	for _, g := range geos() {
		for _, k := range []*state.Keeper{newOf(t, g), keeperOf(t, g, some(g, 2))} {
			before := clone(k.State())
			first, second := k.State(), k.State()
			overwrite(first, 5)
			if !isSame(second, before) {
				t.Errorf("answers share: %v", second)
			}
			want(t, k, before)
			// No list of one answer lies in another list's spare room.
			for i := range lists {
				s := k.State()
				l := *list(&s, i)
				l = l[:cap(l)]
				for at := range l {
					l[at] = 9
				}
				for j := range lists {
					if j != i && !slices.Equal(*list(&s, j), *list(&before, j)) {
						t.Errorf("lists %d and %d share", i, j)
					}
				}
			}
			// Nor does a later change reach it.
			k.All([]api.Rec{{Kind: api.RTrim, A: 0, B: mostSeq}, {Kind: api.RErase, A: 2, B: api.MSlc}, {Kind: api.RErase, A: 2, B: api.MTlc}, {Kind: api.RCommit, A: 1, B: 1}})
			if !isSame(second, before) {
				t.Errorf("changed later: %v", second)
			}
		}
	}
}

// Rule R4: the list that was handed to All is neither changed nor kept.
func TestAllGiven(t *testing.T) {
	l := []api.Rec{{Kind: api.RTrim, A: 1, B: 5}, {Kind: api.RErase, A: 1, B: 1}, {Kind: 9}, {Kind: api.RTrim, A: 0, B: 8}, {Kind: 7, A: 7, B: 7}}
	given := slices.Clone(l)
	k := newOf(t, small)
	k.All(given[:4])
	if !slices.Equal(given, l) {
		t.Errorf("changed to %v", given)
	}
	clear(given)
	want(t, k, model(model(noughts(small), l[0]), l[1]))
}

// Rule R4: two keepers have nothing in common, also such as were made of one state.
func TestTwoKeepers(t *testing.T) {
	for _, g := range geos() {
		s := some(g, 6)
		of := keeperOf(t, g, s)
		for _, two := range [][2]*state.Keeper{{newOf(t, g), newOf(t, g)}, {of, keeperOf(t, g, s)}, {keeperOf(t, g, s), keeperOf(t, g, of.State())}} {
			before := two[1].State()
			two[0].All([]api.Rec{{Kind: api.RTrim, A: 0, B: mostSeq}, {Kind: api.RErase, A: 0, B: api.MSlc}, {Kind: api.RErase, A: 0, B: api.MTlc}, {Kind: api.RCommit, A: 1, B: 1}})
			want(t, two[1], before)
		}
	}
}

// Promise 14.3: floors never fall, whatever comes.
func TestFloorsNeverFall(t *testing.T) {
	for seed := range 20 {
		next := chance(uint64(seed))
		k := keeperOf(t, small, some(small, seed))
		for range 200 {
			before := k.State()
			r := record(small, next)
			if next(3) == 0 {
				r.B += before.Floor[r.A%small.Lbas] - 25
			}
			k.Apply(r)
			for lba, v := range before.Floor {
				if k.Floor(lba) < v {
					t.Fatalf("%+v: floor of %d fell from %d to %d", r, lba, v, k.Floor(lba))
				}
			}
		}
	}
}

// orders calls f with l in each order.
func orders(l []api.Rec, n int, f func([]api.Rec)) {
	if n == len(l) {
		f(l)
		return
	}
	for i := n; i < len(l); i++ {
		l[n], l[i] = l[i], l[n]
		orders(l, n+1, f)
		l[n], l[i] = l[i], l[n]
	}
}

// Promise 14.3: trims and deltas in another order, and again, come to the same.
func TestOrder(t *testing.T) {
	l := []api.Rec{{Kind: api.RTrim, A: 1, B: 5}, {Kind: api.RDelta, A: 1, B: 3}, {Kind: api.RDelta, A: 1, B: 7}, {Kind: api.RTrim, A: 0, B: 4}, {Kind: api.RTrim, A: 0, B: 0}, {Kind: api.RDelta, A: 3, B: mostSeq}}
	s := noughts(small)
	s.Floor = []int{4, 7, 0, mostSeq}
	orders(slices.Clone(l), 0, func(l []api.Rec) {
		k := newOf(t, small)
		if e := k.All(l); e != api.OK {
			t.Fatalf("All(%v): %d", l, e)
		}
		if !isSame(k.State(), s) {
			t.Fatalf("%v: %v", l, k.State())
		}
		for i, r := range l {
			k.Apply(r)
			k.All(l[:i])
		}
		if !isSame(k.State(), s) {
			t.Fatalf("%v again: %v", l, k.State())
		}
	})
}

// Promise 14.3: erasures count up one by one, each mode on its own, up to the greatest count.
func TestErasuresCount(t *testing.T) {
	k := newOf(t, small)
	for i := range 300 {
		if e := k.Apply(api.Rec{Kind: api.RErase, A: 3, B: api.MSlc}); e != api.OK {
			t.Fatal(e)
		}
		if i%3 == 0 {
			k.Apply(api.Rec{Kind: api.RErase, A: 3, B: api.MTlc})
		}
		if slc, tlc := k.Wear(3); slc != i+1 || tlc != i/3+1 {
			t.Errorf("after %d: %d, %d", i, slc, tlc)
		}
	}
	k = keeperOf(t, small, all(small, 0, 0, mostCount-5, mostCount-3))
	for i := range 12 {
		k.All([]api.Rec{{Kind: api.RErase, A: 7, B: api.MSlc}, {Kind: api.RErase, A: 7, B: api.MTlc}})
		if slc, tlc := k.Wear(7); slc != min(mostCount-4+i, mostCount) || tlc != min(mostCount-2+i, mostCount) {
			t.Errorf("after %d: %d, %d", i, slc, tlc)
		}
	}
}
