package chip_test

import (
	"slices"
	"testing"

	"deckle/api"
	"deckle/chip"
	"deckle/frame"
)

func cutAt(at int) api.Fault  { return api.Fault{At: at, Kind: api.FCut, A: 12, B: 34} }
func failAt(at int) api.Fault { return api.Fault{At: at, Kind: api.FFail, A: 56, B: 7} }
func flipAt(at int) api.Fault { return api.Fault{At: at, Kind: api.FFlip, A: 100, B: 9} }

// lastBlock is the last one of small.
const lastBlock = 7

// The chapter's example.
func TestExample(t *testing.T) {
	w := newTwin(t, small, cutAt(1))
	w.want(of(api.OProgram, 0, 0), api.OK)
	w.want(of(api.OProgram, 0, 1), api.ErrPower)
	w.wantCounts(2, 1, 0)
	w.want(of(api.OProgram, 0, 2), api.ErrPower)
	w.wantCounts(2, 1, 0)
}

// Promise 10.1: geometries that may be, from the least to the greatest: a chip as at first, all of whose pages are blank.
func TestNew(t *testing.T) {
	for _, g := range []api.Geo{
		small,
		{Blocks: 8, Lines: 10, Bytes: 16, Lbas: 1, Spare: 0, Wear: 2},
		{Blocks: 9, Lines: 10, Bytes: 64, Lbas: 20, Spare: 1, Wear: 4},
		{Blocks: 64, Lines: 64, Bytes: 256, Lbas: 1000, Spare: 16, Wear: 1000},
	} {
		w := newTwin(t, g, cutAt(maxInt), failAt(-1))
		w.wantCounts(0, 0, 0)
		if w.c.Off() || w.c.Geo() != g {
			t.Errorf("off %t, %+v, not %+v", w.c.Off(), w.c.Geo(), g)
		}
		for _, block := range []int{0, g.Blocks - 1} {
			for part := range 3 {
				w.wantRead(block, g.Lines-1, part, frame.Blank(g.Bytes))
			}
			w.want(read(block, g.Lines, 0), api.ErrReject)
		}
		w.want(read(g.Blocks, 0, 0), api.ErrReject)
	}
}

// Promise 10.1: geometries that may not be, one number wrong in each, or all.
func TestNewWrong(t *testing.T) {
	wrong := []api.Geo{{}, {Blocks: minInt, Lines: minInt, Bytes: minInt, Lbas: minInt, Spare: minInt, Wear: minInt}, {Blocks: maxInt, Lines: maxInt, Bytes: maxInt, Lbas: maxInt, Spare: maxInt, Wear: maxInt}}
	add := func(change func(g *api.Geo, v int), values ...int) {
		for _, v := range append(values, minInt, maxInt, -1, 1<<32+8) {
			g := small
			change(&g, v)
			wrong = append(wrong, g)
		}
	}
	add(func(g *api.Geo, v int) { g.Blocks = v }, 0, 7, 65)
	add(func(g *api.Geo, v int) { g.Lines = v }, 0, 5, 65)
	add(func(g *api.Geo, v int) { g.Bytes = v }, 0, 8, 47, 49, 264)
	add(func(g *api.Geo, v int) { g.Lbas = v }, 0, 3, 19, 4097)
	add(func(g *api.Geo, v int) { g.Spare = v }, 1, 17)
	add(func(g *api.Geo, v int) { g.Wear = v }, 0, 1, 1001)
	for _, g := range wrong {
		for _, faults := range [][]api.Fault{nil, {}, {cutAt(0), failAt(0)}} {
			if c, e := chip.New(g, faults); c != nil || e != api.ErrGeo {
				t.Errorf("New(%+v): a chip %t, %d", g, c != nil, int(e))
			}
		}
	}
}

// Promise 10.1: a list of faults that is nil, or empty, is one without faults.
func TestNoFaults(t *testing.T) {
	for _, faults := range [][]api.Fault{nil, {}} {
		c, e := chip.New(small, faults)
		if e != api.OK || c.Erase(0) != api.OK || c.Copy(faults).Erase(0) != api.OK {
			t.Errorf("without faults: %d", int(e))
		}
	}
}

// Promises 10.1 and 10.3: each operation of the first and the last block, as its cell has it, without faults: nothing fails, nothing is cut.
func TestOperations(t *testing.T) {
	for _, op := range ops() {
		for _, block := range []int{0, 3, lastBlock} {
			w := newTwin(t, small)
			w.all(before(op, block)...)
			w.all(of(op, block, 0))
			w.wantCounts(3, 0, 0)
			if w.c.Off() || w.c.Bad(block) {
				t.Errorf("operation %d: off %t, bad %t", op, w.c.Off(), w.c.Bad(block))
			}
		}
	}
}

// Promise 10.1: what was programmed is read, line by line, in both modes, and blank again once it is erased.
func TestPages(t *testing.T) {
	w := newTwin(t, small)
	for line := range 6 {
		w.all(of(api.OProgram, 2, line))
	}
	w.all(of(api.OFoggy, 5, 0))
	for line := 1; line < 6; line++ {
		w.all(of(api.OFoggy, 5, line), of(api.OFine, 5, line-1))
	}
	w.wantRead(5, 5, 1, hurtOf(of(0, 5, 5).pages[1], 0, 0))
	w.all(of(api.OFine, 5, 5))
	for line := range 6 {
		w.wantRead(2, line, 0, of(0, 2, line).pages[0])
		for part := range 3 {
			w.wantRead(5, line, part, of(0, 5, line).pages[part])
		}
	}
	w.wantBlock("programmed", 2, api.MSlc, false, 0, 0)
	w.wantBlock("programmed", 5, api.MTlc, false, 0, 0)
	w.all(of(api.OErase, 2, 0), of(api.OErase, 5, 0))
	w.wantBlock("erased", 2, api.MNone, false, 1, 0)
	w.wantBlock("erased", 5, api.MNone, false, 0, 1)
	for _, block := range []int{2, 5} {
		w.wantRead(block, 3, 2, blank)
	}
	w.wantCounts(6+12+1+6+18+2+2, 0, 0)
}

// Promise 10.1: blocks that there are none of: each operation is counted, and as refused, and changes nothing.
func TestNoBlock(t *testing.T) {
	for _, op := range ops() {
		w := newTwin(t, small)
		w.all(of(api.OProgram, 0, 0), of(api.OFoggy, lastBlock, 0))
		for i, block := range none(small.Blocks) {
			w.want(of(op, block, 0), api.ErrReject)
			w.wantCounts(3+i, 0, 1+i)
		}
	}
}

// refused are operations on a block that its cell refuses, when its lines 0 and 1 were programmed with one page, or its line 0 made foggy.
func refused(block int, tlc bool) []ask {
	l := []ask{of(api.OProgram, block, 0), of(api.OFine, block, 0), of(api.OFine, block, 1), of(api.OFoggy, block, 0)}
	for _, line := range none(small.Lines) {
		l = append(l, of(api.OProgram, block, line), of(api.OFoggy, block, line), of(api.OFine, block, line), read(block, line, 0))
		l = append(l, read(block, 0, line), read(block, 1, 3), read(block, 1, 4))
	}
	short, long := of(api.OProgram, block, 2), of(api.OProgram, block, 2)
	short.pages[0], long.pages[0] = short.pages[0][1:], long.pages[0]+"x"
	l = append(l, short, long)
	for part := range 3 {
		short, long = of(api.OFoggy, block, 1), of(api.OFoggy, block, 1)
		short.pages[part], long.pages[part] = short.pages[part][1:], long.pages[part]+"x"
		l = append(l, short, long)
	}
	if tlc {
		return append(l, of(api.OProgram, block, 1), of(api.OFoggy, block, 2))
	}
	return append(l, of(api.OFoggy, block, 2), read(block, 0, 1), read(block, 0, 2))
}

// Promise 10.1: lines, parts and pages that a cell refuses: counted, and as refused, with nothing changed, whatever fault would meet them.
func TestRefused(t *testing.T) {
	for _, tlc := range []bool{false, true} {
		for _, kind := range []int{0, api.FCut, api.FFail, api.FFlip} {
			for _, block := range []int{0, lastBlock} {
				l := refused(block, tlc)
				var faults []api.Fault
				for i := range l {
					faults = append(faults, api.Fault{At: 2 + i, Kind: kind, A: 1, B: 2})
				}
				w := newTwin(t, small, faults...)
				if tlc {
					w.all(of(api.OErase, block, 0), of(api.OFoggy, block, 0))
				} else {
					w.all(of(api.OProgram, block, 0), of(api.OProgram, block, 1))
				}
				for i, q := range l {
					w.want(q, api.ErrReject)
					w.wantCounts(3+i, 0, 1+i)
				}
				if w.c.Off() || w.c.Bad(block) {
					t.Errorf("off %t, bad %t", w.c.Off(), w.c.Bad(block))
				}
			}
		}
	}
}

// Promise 10.1: a fault that meets an operation of no block is gone by: the next one has another number.
func TestFaultOfRefused(t *testing.T) {
	for _, f := range []api.Fault{cutAt(0), failAt(0), flipAt(0)} {
		for _, op := range ops() {
			w := newTwin(t, small, f)
			w.want(of(op, 8, 0), api.ErrReject)
			w.want(of(op, -1, 0), api.ErrReject)
			w.all(of(api.OProgram, 0, 0))
			w.wantRead(0, 0, 0, of(0, 0, 0).pages[0])
			w.wantCounts(4, 0, 2)
		}
	}
}

// Promise 10.1: a cell that is bad refuses: a cut that would meet that comes not.
func TestBadRefuses(t *testing.T) {
	w := newTwin(t, small, failAt(1), cutAt(2), cutAt(3), cutAt(4), cutAt(5), cutAt(7))
	w.want(of(api.OProgram, 4, 0), api.OK)
	w.want(of(api.OProgram, 4, 1), api.ErrFail)
	w.want(of(api.OProgram, 4, 2), api.ErrReject)
	w.want(of(api.OErase, 4, 0), api.ErrReject)
	w.want(of(api.OFoggy, 4, 0), api.ErrReject)
	w.want(of(api.OFine, 4, 0), api.ErrReject)
	w.wantRead(4, 0, 0, of(0, 4, 0).pages[0])
	w.wantCounts(7, 0, 4)
	w.want(read(4, 1, 0), api.ErrPower)
	w.power()
	w.wantRead(4, 1, 0, hurtOf(of(0, 4, 1).pages[0], 56, 7))
	w.wantCounts(9, 1, 4)
}

// comes answers what an operation comes to that meets a fault of the kind.
func comes(kind, op int) api.Code {
	if kind == api.FCut {
		return api.ErrPower
	}
	if kind == api.FFail && op != api.ORead {
		return api.ErrFail
	}
	return api.OK
}

// Promise 10.1: each operation, met by a fault of each kind, and of kinds that there are none of, at its own number.
func TestFaults(t *testing.T) {
	for _, op := range ops() {
		for _, kind := range []int{api.FCut, api.FFail, api.FFlip, 0, 4, -1, 1<<32 + 1, 1<<32 + 2, minInt, maxInt} {
			for _, block := range []int{0, lastBlock} {
				w := newTwin(t, small, api.Fault{At: 2, Kind: kind, A: 5, B: 6})
				w.all(before(op, block)...)
				was := w.copy()
				w.want(of(op, block, 0), comes(kind, op))
				cut, fail := kind == api.FCut, kind == api.FFail && op != api.ORead
				if w.c.Off() != cut || w.c.Bad(block) != fail {
					t.Errorf("operation %d, kind %d: off %t, bad %t", op, kind, w.c.Off(), w.c.Bad(block))
				}
				cuts := 0
				if cut {
					cuts = 1
				}
				w.wantCounts(3, cuts, 0)
				for other := range small.Blocks {
					if other != block || op == api.ORead {
						slc, tlc := was.c.Wear(other)
						w.wantBlock("a fault", other, was.c.Mode(other), false, slc, tlc)
					}
				}
			}
		}
	}
}

// Promise 10.1: each operation, when a fault comes one number ahead of it, one behind it, and further away; all goes on behind it.
func TestFaultsBeside(t *testing.T) {
	for _, op := range ops() {
		for _, kind := range []int{api.FCut, api.FFail, api.FFlip} {
			for _, at := range []int{minInt, -1, 0, 1, 3, 4, 5, 1<<32 + 2, maxInt} {
				w := newTwin(t, small, api.Fault{At: at, Kind: kind, A: 5, B: 6})
				for _, q := range before(op, 4) {
					w.put(q)
				}
				if at < 0 || at > 1 {
					w.want(of(op, 4, 0), api.OK)
				} else {
					w.put(of(op, 4, 0))
				}
				for _, q := range []ask{of(op, 4, 0), of(op, 4, 1), read(4, 0, 0), of(api.OErase, 4, 0), of(op, 4, 0)} {
					w.put(q)
				}
				w.power()
				for _, again := range ops() {
					w.put(of(again, 4, 0))
					w.put(of(again, 5, 0))
				}
			}
		}
	}
}

// Promise 10.1: what a step that is cut, or fails, leaves, hurt by the fault's A and B, and what the pages beside it are.
func TestFaultHurts(t *testing.T) {
	for _, f := range []api.Fault{cutAt(2), failAt(2), {At: 2, Kind: api.FCut, A: -1, B: minInt}, {At: 2, Kind: api.FFail, A: maxInt, B: -5}} {
		for _, op := range []int{api.OProgram, api.OFoggy, api.OFine} {
			w := newTwin(t, small, f)
			w.all(before(op, 6)...)
			w.want(of(op, 6, 0), comes(f.Kind, op))
			w.power()
			w.wantRead(6, 0, 0, hurtOf(of(op, 6, 0).pages[0], f.A, f.B))
			if op != api.OProgram {
				w.wantRead(6, 0, 2, hurtOf(of(op, 6, 0).pages[2], f.A, f.B))
			}
			w.wantRead(6, 2, 0, blank)
			w.wantRead(5, 0, 0, blank)
		}
		w := newTwin(t, small, f)
		w.all(of(api.OProgram, 6, 0), of(api.OProgram, 6, 1))
		w.want(of(api.OErase, 6, 0), comes(f.Kind, api.OErase))
		w.power()
		w.wantRead(6, 1, 0, hurtOf(of(0, 6, 1).pages[0], f.A, f.B))
		w.wantRead(6, 5, 0, hurtOf(blank, f.A, f.B))
		w.wantBlock("erased", 6, api.MSlc, f.Kind == api.FFail, 1, 0)
	}
}

// Promise 10.1: a read that is cut tells nothing, and changes no page; what is read of it later is whole.
func TestReadCut(t *testing.T) {
	w := newTwin(t, small, cutAt(1), cutAt(2))
	w.all(of(api.OProgram, 1, 0))
	for range 2 {
		if s, e := w.put(read(1, 0, 0)); s != "" || e != api.ErrPower {
			t.Errorf("a read that is cut: %q, %d", s, int(e))
		}
		if s, e := w.put(read(1, 0, 0)); s != "" || e != api.ErrPower {
			t.Errorf("a read without power: %q, %d", s, int(e))
		}
		w.power()
	}
	w.wantRead(1, 0, 0, of(0, 1, 0).pages[0])
	w.all(of(api.OProgram, 1, 1))
	w.wantCounts(5, 2, 0)
}

// Promise 10.1: a read that is flipped tells its page with A's bit turned, in all places of it, that once; blank pages and foggy ones, too.
func TestFlip(t *testing.T) {
	for _, a := range []int{0, 1, 7, 8, 71, 72, 647, 648, 649, -1, -648, maxInt, minInt, 1 << 32} {
		w := newTwin(t, small, api.Fault{At: 2, Kind: api.FFlip, A: a, B: 3}, api.Fault{At: 4, Kind: api.FFlip, A: a}, api.Fault{At: 6, Kind: api.FFlip, A: a})
		w.all(of(api.OProgram, 0, 0), of(api.OFoggy, 1, 0))
		p, q := of(0, 0, 0).pages[0], of(0, 1, 0).pages[1]
		w.wantRead(0, 0, 0, flippedOf(p, a))
		w.wantRead(0, 0, 0, p)
		w.wantRead(0, 5, 0, flippedOf(blank, a))
		w.wantRead(0, 5, 0, blank)
		w.wantRead(1, 0, 1, flippedOf(hurtOf(q, 0, 0), a))
		w.wantRead(1, 0, 1, hurtOf(q, 0, 0))
		if is := frame.Decode(flippedOf(p, a)).What; is != api.PFixed {
			t.Errorf("flipped by %d: %d", a, is)
		}
	}
}

// Promise 10.1: faults of one number: the first of the list that fits comes, and none of the others, then or later.
func TestFaultsOfOneNumber(t *testing.T) {
	kinds := []int{api.FCut, api.FFail, api.FFlip, 0}
	for _, first := range kinds {
		for _, second := range kinds {
			for _, third := range kinds {
				for _, op := range ops() {
					var faults []api.Fault
					want := api.OK
					for i, kind := range []int{first, second, third} {
						faults = append(faults, api.Fault{At: 2, Kind: kind, A: 10 * i, B: i}, api.Fault{At: 1 + 2*i, Kind: 5})
					}
					for _, kind := range []int{third, second, first} {
						if kind == api.FCut || comes(kind, op) != api.OK || kind == api.FFlip && op == api.ORead {
							want = comes(kind, op)
						}
					}
					w := newTwin(t, small, faults...)
					w.all(before(op, 2)...)
					w.want(of(op, 2, 0), want)
					w.power()
					w.all(read(2, 0, 0), of(api.OErase, 3, 0))
				}
			}
		}
	}
}

// Promise 10.1: faults that are listed in another order than that in which they come, some of them below 0, and beyond all.
func TestFaultsInAnyOrder(t *testing.T) {
	w := newTwin(t, small, failAt(6), cutAt(maxInt), cutAt(4), cutAt(-1), flipAt(2), cutAt(minInt), flipAt(1), cutAt(4), failAt(2), failAt(3))
	w.all(of(api.OProgram, 0, 0))
	w.wantRead(0, 0, 0, flippedOf(of(0, 0, 0).pages[0], 100))
	w.wantRead(0, 0, 0, flippedOf(of(0, 0, 0).pages[0], 100))
	w.wantRead(0, 0, 0, of(0, 0, 0).pages[0])
	w.want(of(api.OErase, 1, 0), api.ErrPower)
	w.power()
	w.want(of(api.OErase, 1, 0), api.OK)
	w.want(of(api.OErase, 1, 0), api.ErrFail)
	w.want(of(api.OErase, 1, 0), api.ErrReject)
	w.wantCounts(8, 1, 1)
}

// Promise 10.1: a flip at each of many reads, told from the last one on: each turns its own bit.
func TestManyFaults(t *testing.T) {
	const reads = 20000
	var faults []api.Fault
	for at := reads; at > 0; at-- {
		faults = append(faults, api.Fault{At: at, Kind: api.FFail}, api.Fault{At: at, Kind: api.FFlip, A: at})
	}
	c, _ := chip.New(small, faults)
	p := of(0, 3, 0).pages[0]
	c.Program(3, 0, p)
	for at := 1; at <= reads; at++ {
		if s, e := c.Read(api.Addr{Block: 3}); s != flippedOf(p, at) || e != api.OK {
			t.Fatalf("read %d: %q, %d", at, s, int(e))
		}
	}
	if s, e := c.Read(api.Addr{Block: 3}); s != p || e != api.OK {
		t.Errorf("behind all: %q, %d", s, int(e))
	}
}

// Promises 10.1 and 10.3: while the power is off each operation has none, also one that would be refused, and is not counted; its number is that of the first one behind Power.
func TestOff(t *testing.T) {
	for _, op := range ops() {
		for _, cutOp := range ops() {
			w := newTwin(t, small, cutAt(2), failAt(3), flipAt(3), cutAt(5))
			w.all(before(cutOp, 0)...)
			w.want(of(cutOp, 0, 0), api.ErrPower)
			for range 3 {
				for _, block := range append(none(small.Blocks), 0, 1, lastBlock) {
					w.want(of(op, block, 0), api.ErrPower)
					w.wantCounts(3, 1, 0)
				}
				w.want(read(0, -1, 5), api.ErrPower)
				if !w.c.Off() {
					t.Error("on")
				}
			}
			w.power()
			w.wantCounts(3, 1, 0)
			w.put(of(op, 0, 0))
			w.put(of(op, 1, 0))
			w.put(of(op, 2, 0))
			w.power()
			w.all(read(0, 0, 0), of(api.OProgram, 5, 0))
		}
	}
}

// Promise 10.1: Power of a chip that is on changes nothing, and no fault that is to come.
func TestPowerOn(t *testing.T) {
	w := newTwin(t, small, cutAt(1))
	w.power()
	w.power()
	w.all(of(api.OErase, 0, 0))
	w.power()
	w.want(of(api.OErase, 0, 0), api.ErrPower)
	w.power()
	w.power()
	w.all(of(api.OErase, 0, 0))
}

// Promise 10.1: several cuts, each is counted, and behind each the power is turned on again.
func TestCuts(t *testing.T) {
	w := newTwin(t, small, cutAt(0), cutAt(1), cutAt(3), cutAt(4))
	for _, want := range []api.Code{api.ErrPower, api.ErrPower, api.OK, api.ErrPower, api.ErrPower, api.OK} {
		w.want(of(api.OErase, 2, 0), want)
		w.power()
	}
	w.wantCounts(6, 4, 0)
}

// shakes are numbers by which a page is hurt, far out too.
func shakes() [][2]int {
	return [][2]int{{0, 0}, {1, 0}, {71, 70}, {72, 71}, {-1, -1}, {35, 17}, {maxInt, minInt}, {minInt, maxInt}}
}

// Promise 10.1: shaken, the next read is hurt, that one alone; what was programmed, blank pages, and one of a line that is foggy.
func TestShake(t *testing.T) {
	for _, by := range shakes() {
		w := newTwin(t, small)
		w.all(of(api.OProgram, 0, 0), of(api.OFoggy, 1, 0))
		p, q := of(0, 0, 0).pages[0], hurtOf(of(0, 1, 0).pages[2], 0, 0)
		w.shake(by[0], by[1])
		w.wantRead(0, 0, 0, hurtOf(p, by[0], by[1]))
		w.wantRead(0, 0, 0, p)
		w.shake(by[0], by[1])
		w.wantRead(lastBlock, 5, 2, hurtOf(blank, by[0], by[1]))
		w.wantRead(0, 0, 0, p)
		w.wantRead(lastBlock, 5, 2, blank)
		w.shake(by[0], by[1])
		w.wantRead(1, 0, 2, hurtOf(q, by[0], by[1]))
		w.wantRead(1, 0, 2, q)
		w.wantCounts(9, 0, 0)
		if is := frame.Decode(hurtOf(p, by[0], by[1])).What; is != api.PBad {
			t.Errorf("shaken by %v: %d", by, is)
		}
	}
}

// Promise 10.1: a read that is flipped is hurt behind that: both are told, also where they turn the same bit.
func TestShakeFlipped(t *testing.T) {
	for _, by := range shakes() {
		for _, a := range []int{0, 1, 71, 72, 647, -1} {
			w := newTwin(t, small, api.Fault{At: 1, Kind: api.FFlip, A: a}, api.Fault{At: 3, Kind: api.FFlip, A: a})
			w.all(of(api.OProgram, 0, 0))
			p := of(0, 0, 0).pages[0]
			w.shake(by[0], by[1])
			w.wantRead(0, 0, 0, hurtOf(flippedOf(p, a), by[0], by[1]))
			w.wantRead(0, 0, 0, p)
			w.wantRead(0, 0, 0, flippedOf(p, a))
		}
	}
}

// Promise 10.1: a read that is refused, one that is cut, one without power, and operations that are no reads leave the chip shaken.
func TestShakeStays(t *testing.T) {
	p := of(0, 0, 0).pages[0]
	stays := func(name string, w *twin) {
		t.Helper()
		w.power()
		w.wantRead(0, 0, 0, hurtOf(p, 9, 8))
		w.wantRead(0, 0, 0, p)
		if t.Failed() {
			t.Log(name)
		}
	}
	shaken := func(faults ...api.Fault) *twin {
		t.Helper()
		w := newTwin(t, small, faults...)
		w.all(of(api.OProgram, 0, 0))
		w.shake(9, 8)
		return w
	}
	for _, q := range []ask{read(0, 6, 0), read(0, -1, 0), read(0, 0, 1), read(1, 0, 3), read(8, 0, 0), read(-1, 0, 0)} {
		w := shaken()
		w.want(q, api.ErrReject)
		stays("a read that is refused", w)
		w = shaken(cutAt(1), flipAt(1))
		w.want(q, api.ErrReject)
		stays("a read that is refused, and would be cut", w)
	}
	w := shaken(cutAt(1))
	w.want(read(0, 0, 0), api.ErrPower)
	w.want(read(0, 0, 0), api.ErrPower)
	w.want(read(1, 0, 0), api.ErrPower)
	stays("reads that are cut, and without power", w)
	for _, op := range []int{api.OProgram, api.OFoggy, api.OFine, api.OErase} {
		for _, f := range []api.Fault{cutAt(3), failAt(3), flipAt(3), {At: 3}} {
			w = shaken(f)
			w.all(before(op, 4)...)
			w.want(of(op, 4, 0), comes(f.Kind, op))
			stays("no read", w)
		}
		w = shaken()
		w.want(of(op, 8, 0), api.ErrReject)
		w.power()
		w.c.Mode(0)
		w.c.Wear(0)
		w.c.Bad(0)
		stays("no read, and refused", w)
	}
}

// Promise 10.1: shaken twice, the next read is hurt by the second one alone, also by the same bits; it is shaken once, not twice.
func TestShakeTwice(t *testing.T) {
	p := of(0, 0, 0).pages[0]
	for _, first := range shakes() {
		for _, second := range shakes() {
			w := newTwin(t, small)
			w.all(of(api.OProgram, 0, 0))
			w.shake(first[0], first[1])
			w.shake(second[0], second[1])
			w.wantRead(0, 0, 0, hurtOf(p, second[0], second[1]))
			w.wantRead(0, 0, 0, p)
		}
	}
}

// Promise 10.1: a chip that is shaken while its power is off is shaken once that is on.
func TestShakeOff(t *testing.T) {
	w := newTwin(t, small, cutAt(1))
	w.all(of(api.OProgram, 0, 0))
	w.want(of(api.OErase, 1, 0), api.ErrPower)
	w.shake(3, 4)
	w.want(read(0, 0, 0), api.ErrPower)
	w.power()
	w.wantRead(0, 0, 0, hurtOf(of(0, 0, 0).pages[0], 3, 4))
	w.wantRead(0, 0, 0, of(0, 0, 0).pages[0])
}

// Promise 10.1: of blocks that there are, and of none, with the power on and off: what a cell tells, or nothing; no operation is counted.
func TestBlocks(t *testing.T) {
	w := newTwin(t, small, failAt(4), cutAt(6))
	w.all(of(api.OProgram, 0, 0), of(api.OFoggy, lastBlock, 0), of(api.OErase, lastBlock, 0), of(api.OFoggy, lastBlock, 0))
	w.want(of(api.OErase, lastBlock, 0), api.ErrFail)
	w.all(of(api.OErase, 3, 0))
	tells := func() {
		t.Helper()
		w.wantBlock("told", 0, api.MSlc, false, 0, 0)
		w.wantBlock("told", lastBlock, api.MTlc, true, 0, 2)
		w.wantBlock("told", 1, api.MNone, false, 0, 0)
		for _, block := range none(small.Blocks) {
			w.wantBlock("told", block, 0, false, 0, 0)
		}
	}
	tells()
	w.wantBlock("told", 3, api.MNone, false, 1, 0)
	w.wantCounts(6, 0, 0)
	w.want(of(api.OErase, 3, 0), api.ErrPower)
	tells()
	w.wantBlock("told", 3, api.MSlc, false, 2, 0)
	w.wantCounts(7, 1, 0)
	w.power()
	tells()
	w.wantCounts(7, 1, 0)
}

// Promise 10.3: what is done to one block, whatever it comes to, leaves all others as they are.
func TestOthersStay(t *testing.T) {
	for _, op := range ops() {
		for _, kind := range []int{0, api.FCut, api.FFail, api.FFlip} {
			w := newTwin(t, small, api.Fault{At: 2*6 + 2, Kind: kind, A: 4, B: 4})
			for block := 1; block < lastBlock; block++ {
				w.all(of(api.OFoggy, block, 0), of(api.OFoggy, block, 1))
			}
			w.all(before(op, 0)...)
			w.want(of(op, 0, 0), comes(kind, op))
			w.power()
			for block := 1; block < lastBlock; block++ {
				w.all(of(api.OFine, block, 0))
				w.wantRead(block, 0, 2, of(0, block, 0).pages[2])
			}
			w.all(of(api.OProgram, lastBlock, 0))
		}
	}
}

// worked is a chip that is off, shaken, with counts, with cells of each mode, a torn one and a bad one, and a cut that is to come.
func worked(t *testing.T) *twin {
	t.Helper()
	w := newTwin(t, small, failAt(3), cutAt(5), cutAt(6))
	w.all(of(api.OProgram, 0, 0), of(api.OFoggy, 1, 0), of(api.OErase, 2, 0))
	w.want(of(api.OProgram, 3, 0), api.ErrFail)
	w.want(of(api.OErase, 3, 0), api.ErrReject)
	w.shake(5, 6)
	w.want(of(api.OFoggy, 4, 0), api.ErrPower)
	return w
}

// Promise 10.2: a copy of such a chip: its cells as they are, on, not shaken, nothing counted, with the faults that it was given, and no other.
func TestCopy(t *testing.T) {
	w := worked(t)
	o := w.copy()
	o.wantCounts(0, 0, 0)
	if o.c.Off() || !w.c.Off() || o.c.Geo() != small {
		t.Errorf("off %t, and the chip %t, %+v", o.c.Off(), w.c.Off(), o.c.Geo())
	}
	o.wantRead(0, 0, 0, of(0, 0, 0).pages[0])
	o.want(of(api.OProgram, 3, 1), api.ErrReject)
	o.want(of(api.OFoggy, 4, 1), api.ErrReject)
	o.all(of(api.OFoggy, 1, 1), of(api.OFine, 1, 0), of(api.OErase, 4, 0), of(api.OErase, 0, 0))
	w.power()
	w.want(of(api.OErase, 0, 0), api.ErrPower)
	w.power()
	w.wantRead(1, 0, 0, hurtOf(hurtOf(of(0, 1, 0).pages[0], 0, 0), 5, 6))
	o.look("the copy")
}

// Promise 10.2: a copy's faults come by its own numbers, from 0 on, and are none of the chip's; a copy that is off, shaken and counted is copied likewise.
func TestCopyFaults(t *testing.T) {
	w := worked(t)
	o := w.copy(cutAt(1), flipAt(0))
	o.wantRead(0, 0, 0, flippedOf(of(0, 0, 0).pages[0], 100))
	o.want(of(api.OErase, 5, 0), api.ErrPower)
	o.shake(1, 1)
	o.want(read(8, 0, 0), api.ErrPower)
	p := o.copy(failAt(2))
	p.wantRead(0, 0, 0, of(0, 0, 0).pages[0])
	p.want(of(api.OErase, 8, 0), api.ErrReject)
	p.want(of(api.OErase, 5, 0), api.ErrFail)
	p.wantCounts(3, 0, 1)
	o.power()
	o.all(of(api.OErase, 5, 0))
	o.wantRead(0, 0, 0, hurtOf(of(0, 0, 0).pages[0], 1, 1))
	w.power()
	w.want(of(api.OErase, 6, 0), api.ErrPower)
	w.look("the chip")
	o.look("the copy")
	p.look("the copy's copy")
}

// Promise 10.2: what is done to a chip is not done to its copy, either way round: each operation, well, cut and failed, Power and Shake.
func TestCopyOwn(t *testing.T) {
	for _, op := range ops() {
		for _, kind := range []int{0, api.FCut, api.FFail, api.FFlip} {
			for _, side := range []bool{false, true} {
				f := api.Fault{At: 2, Kind: kind, A: 3, B: 3}
				w := newTwin(t, small, f)
				w.all(before(op, 0)...)
				f.At = 0
				one, other := w, w.copy(f)
				if side {
					one, other = other, one
				}
				one.want(of(op, 0, 0), comes(kind, op))
				other.look("the other one")
				one.power()
				one.shake(1, 2)
				other.look("the other one")
				other.want(of(op, 0, 0), comes(kind, op))
				other.power()
				other.put(read(0, 0, 0))
				one.put(read(0, 0, 0))
				one.put(of(api.OErase, 0, 0))
				other.look("the other one, at last")
			}
		}
	}
}

// Promises 10.1 and 10.2: chips that are asked the same tell the same, also while others are asked something else.
func TestSame(t *testing.T) {
	faults := []api.Fault{flipAt(2), cutAt(4), failAt(6)}
	a, b, other := newTwin(t, small, faults...), newTwin(t, small, faults...), newTwin(t, small)
	for _, q := range []ask{of(api.OProgram, 0, 0), read(0, 0, 0), read(0, 0, 0), of(api.OFoggy, 1, 0), of(api.OFoggy, 1, 1), read(1, 0, 0), read(1, 0, 0), of(api.OErase, 2, 0), read(2, 0, 0)} {
		s, e := a.put(q)
		other.put(of(api.OErase, 0, 0))
		if again, code := b.put(q); again != s || code != e {
			t.Errorf("operation %d at %+v: %q, %d, then %q, %d", q.op, q.at, s, int(e), again, int(code))
		}
		if e == api.ErrPower {
			a.power()
			b.power()
		}
	}
}

// Promises 10.1 to 10.3: long ways through chips, with faults at many operations, held against the chapter's words, and copies on the way.
func TestAnyWay(t *testing.T) {
	for seed := range 60 {
		state := uint32(seed)*747796405 + 2891336453
		pick := func(n int) int {
			state = state*1664525 + 1013904223
			return int(state>>8) % n
		}
		w := newTwin(t, small, script(pick, seed)...)
		left := []*twin{}
		for range 150 {
			if pick(40) == 0 {
				left = append(left, w)
				w = w.copy(script(pick, seed)...)
			}
			w.wander(pick)
		}
		for _, o := range left {
			o.look("left behind")
			o.wander(pick)
		}
		w.look("the last one")
	}
}

// script answers faults at the first 150 operations, the more, the higher seed is.
func script(pick func(int) int, seed int) []api.Fault {
	var l []api.Fault
	for range seed {
		f := api.Fault{At: pick(152) - 1, Kind: 1 + pick(4), A: pick(2000) - 1000, B: pick(2000) - 1000}
		if f.Kind == api.FFail && pick(3) > 0 {
			f.Kind = api.FFlip
		}
		l = append(l, f)
	}
	return slices.Clip(l)
}

// wander does something that pick chooses; most operations may be.
func (w *twin) wander(pick func(int) int) {
	w.t.Helper()
	block := pick(4)
	if pick(20) == 0 {
		block = pick(12) - 2
	}
	line := pick(small.Lines)
	if block >= 0 && block < small.Blocks && pick(8) > 0 {
		if line = w.m.cells[block].Done(); w.m.cells[block].Mode() == api.MTlc {
			line = (line + 1) / 2
		}
	}
	switch n := pick(24); {
	case n < 4:
		w.put(of(api.OProgram, block, line))
	case n < 8:
		w.put(of(api.OFoggy, block, line))
	case n < 12:
		w.put(of(api.OFine, block, max(line-2, 0)))
		w.put(of(api.OFine, block, line-1))
	case n < 18:
		w.put(read(block, pick(small.Lines+2)-1, pick(4)))
	case n < 20:
		w.put(of(api.OErase, block, 0))
	case n < 22:
		w.shake(pick(200)-100, pick(200)-100)
	default:
		w.power()
	}
}
