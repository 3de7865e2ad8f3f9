package chip_test

import (
	"math"
	"slices"
	"strings"
	"testing"

	"deckle/api"
	"deckle/cell"
	"deckle/chip"
	"deckle/frame"
)

const maxInt, minInt = math.MaxInt, math.MinInt

// small is a geometry with as few blocks and lines as there may be.
var small = api.Geo{Blocks: 8, Lines: 6, Bytes: 48, Lbas: 2, Spare: 0, Wear: 2}

// rawBytes is how many bytes a page of small has on the chip, blank a page on which nothing was programmed.
const rawBytes = 81

var blank = strings.Repeat("\xff", rawBytes)

// spare is a fault that lies behind a list's length, or has been put into a list since.
var spare = api.Fault{At: 2, Kind: api.FCut, A: 77, B: 78}

// pageOf answers a page of small, another one of each number.
func pageOf(number int) string {
	n := number & 0xfff
	s, e := frame.Encode(api.Tag{Kind: api.KData, Lba: n, Seq: n, Epoch: 7}, strings.Repeat("deckle", 8))
	if e != api.OK || len(s) != rawBytes {
		panic("no page")
	}
	return s
}

// hurtOf answers s with the two bits turned that chapter 5 names.
func hurtOf(s string, a, b int) string {
	first := (a%72 + 72) % 72
	second := (first + 1 + (b%71+71)%71) % 72
	l := []byte(s)
	l[first/8] ^= 1 << (first % 8)
	l[second/8] ^= 1 << (second % 8)
	return string(l)
}

// flippedOf answers s with the bit turned that chapter 9 names.
func flippedOf(s string, a int) string {
	n := 8 * len(s)
	k := (a%n + n) % n
	l := []byte(s)
	l[k/8] ^= 1 << (k % 8)
	return string(l)
}

// ask is an operation, with what it is given.
type ask struct {
	op    int
	at    api.Addr
	pages [3]string
}

// of answers the ask of op at a line of a block, with pages of that line's own.
func of(op, block, line int) ask {
	n := 100*(block&0xf) + 3*(line&0xf) + 1
	return ask{op, api.Addr{Block: block, Line: line}, [3]string{pageOf(n), pageOf(n + 1), pageOf(n + 2)}}
}

func read(block, line, part int) ask {
	return ask{op: api.ORead, at: api.Addr{Block: block, Line: line, Part: part}}
}

func ops() []int { return []int{api.ORead, api.OProgram, api.OFoggy, api.OFine, api.OErase} }

// before answers what is done on a block ahead of the line's operation op, so that it may be: of a read, too, there is a page then.
func before(op, block int) []ask {
	if op == api.OFine {
		return []ask{of(api.OFoggy, block, 0), of(api.OFoggy, block, 1)}
	}
	if op == api.ORead {
		return []ask{of(api.OErase, block, 0), of(api.OProgram, block, 0)}
	}
	return []ask{of(api.OErase, block, 0), of(api.OErase, block, 0)}
}

// put asks a chip.
func put(c *chip.Chip, q ask) (string, api.Code) {
	switch q.op {
	case api.ORead:
		return c.Read(q.at)
	case api.OProgram:
		return "", c.Program(q.at.Block, q.at.Line, q.pages[0])
	case api.OFoggy:
		return "", c.Foggy(q.at.Block, q.at.Line, q.pages)
	case api.OFine:
		return "", c.Fine(q.at.Block, q.at.Line, q.pages)
	}
	return "", c.Erase(q.at.Block)
}

// model is what the chapter says of a chip, over cells of chapter 8.
type model struct {
	geo                api.Geo
	cells              []*cell.Cell
	faults             []api.Fault
	ops, rejects, cuts int
	off                bool
	shaken             []int
}

func newModel(g api.Geo, faults []api.Fault) *model {
	m := &model{geo: g, faults: slices.Clone(faults)}
	for range g.Blocks {
		b, e := cell.New(g.Lines, g.Bytes)
		if e != api.OK {
			panic("no cell")
		}
		m.cells = append(m.cells, b)
	}
	return m
}

func (m *model) copy(faults []api.Fault) *model {
	o := &model{geo: m.geo, faults: slices.Clone(faults)}
	for _, b := range m.cells {
		o.cells = append(o.cells, b.Copy())
	}
	return o
}

// meets answers the fault that the operation of the number at meets; one of no kind, if there is none.
func (m *model) meets(at, op int) api.Fault {
	for _, f := range m.faults {
		if f.At == at && (f.Kind == 1 || f.Kind == 2 && op != api.ORead || f.Kind == 3 && op == api.ORead) {
			return f
		}
	}
	return api.Fault{}
}

func (m *model) put(q ask) (string, api.Code) {
	if m.off {
		return "", api.ErrPower
	}
	m.ops++
	s, e := m.done(q, m.meets(m.ops-1, q.op))
	if e == api.ErrReject {
		m.rejects++
	}
	if e == api.ErrPower {
		m.off = true
		m.cuts++
	}
	return s, e
}

// done does what is asked, with power, in the way how.
func (m *model) done(q ask, how api.Fault) (string, api.Code) {
	if q.at.Block < 0 || q.at.Block >= m.geo.Blocks {
		return "", api.ErrReject
	}
	b := m.cells[q.at.Block]
	switch q.op {
	case api.OProgram:
		return "", b.Program(q.at.Line, q.pages[0], how)
	case api.OFoggy:
		return "", b.Foggy(q.at.Line, q.pages, how)
	case api.OFine:
		return "", b.Fine(q.at.Line, q.pages, how)
	case api.OErase:
		return "", b.Erase(how)
	}
	s, e := b.Read(q.at.Line, q.at.Part)
	if e != api.OK {
		return "", e
	}
	if how.Kind == 1 {
		return "", api.ErrPower
	}
	if how.Kind == 3 {
		s = flippedOf(s, how.A)
	}
	if m.shaken != nil {
		s = hurtOf(s, m.shaken[0], m.shaken[1])
		m.shaken = nil
	}
	return s, api.OK
}

// twin is a chip, and what the chapter says of it: whatever is done to it is held against that.
type twin struct {
	t *testing.T
	c *chip.Chip
	m *model
}

// given answers a copy of l with room behind its length, in which there is a fault that does not count.
func given(l []api.Fault) []api.Fault {
	full := append(slices.Clone(l), spare, spare)
	return full[:len(l):len(full)]
}

// wantGiven holds that l, made by given, is as it was made, room and all; and spoils it, as it is nobody's any more.
func wantGiven(t *testing.T, l, was []api.Fault) {
	t.Helper()
	full := l[:len(was)+2]
	if !slices.Equal(l, was) || full[len(was)] != spare || full[len(was)+1] != spare {
		t.Errorf("the list given: %+v, not %+v", full, was)
	}
	for i := range full {
		full[i] = spare
	}
}

func newTwin(t *testing.T, g api.Geo, faults ...api.Fault) *twin {
	t.Helper()
	l := given(faults)
	c, e := chip.New(g, l)
	if c == nil || e != api.OK {
		t.Fatalf("New(%+v): a chip %t, %d", g, c != nil, int(e))
	}
	wantGiven(t, l, faults)
	w := &twin{t, c, newModel(g, faults)}
	w.look("New")
	return w
}

func (w *twin) copy(faults ...api.Fault) *twin {
	w.t.Helper()
	l := given(faults)
	o := &twin{w.t, w.c.Copy(l), w.m.copy(faults)}
	if o.c == nil || o.c == w.c {
		w.t.Fatalf("Copy: nothing, or the chip itself")
	}
	wantGiven(w.t, l, faults)
	o.look("Copy")
	w.look("copied")
	return o
}

// look holds all that the chip tells against what it must tell, its pages as a copy of it tells them.
func (w *twin) look(after string) {
	w.t.Helper()
	for range 2 {
		w.lookCounts(after)
		w.lookBlocks(after)
	}
	x := w.c.Copy(nil)
	for block, b := range w.m.cells {
		for line := range w.m.geo.Lines {
			for part := range 3 {
				want, code := b.Read(line, part)
				if s, e := x.Read(api.Addr{Block: block, Line: line, Part: part}); s != want || e != code {
					w.t.Fatalf("%s: page %d %d %d: %q, %d, not %q, %d", after, block, line, part, s, int(e), want, int(code))
				}
			}
		}
	}
	w.lookCounts(after)
}

func (w *twin) lookCounts(after string) {
	w.t.Helper()
	c, m := w.c, w.m
	if c.Off() != m.off || c.Ops() != m.ops || c.Cuts() != m.cuts || c.Rejects() != m.rejects || c.Geo() != m.geo {
		w.t.Fatalf("%s: off %t, %d operations, %d cuts, %d refused, %+v, not %t, %d, %d, %d, %+v", after,
			c.Off(), c.Ops(), c.Cuts(), c.Rejects(), c.Geo(), m.off, m.ops, m.cuts, m.rejects, m.geo)
	}
}

func (w *twin) lookBlocks(after string) {
	w.t.Helper()
	for block, b := range w.m.cells {
		slc, tlc := b.Counts()
		w.wantBlock(after, block, b.Mode(), b.Bad(), slc, tlc)
	}
	for _, block := range none(w.m.geo.Blocks) {
		w.wantBlock(after, block, 0, false, 0, 0)
	}
}

func (w *twin) wantBlock(after string, block, mode int, bad bool, slc, tlc int) {
	w.t.Helper()
	s, t := w.c.Wear(block)
	if w.c.Mode(block) != mode || w.c.Bad(block) != bad || s != slc || t != tlc {
		w.t.Fatalf("%s: block %d: mode %d, bad %t, wear %d %d, not %d, %t, %d %d", after, block,
			w.c.Mode(block), w.c.Bad(block), s, t, mode, bad, slc, tlc)
	}
}

// none are numbers that none of n things has.
func none(n int) []int {
	return []int{-1, -2, -n, n, n + 1, 2 * n, 1 << 32, 1<<32 + 1, -1 << 32, maxInt, maxInt - 1, minInt, minInt + 1}
}

// put asks both, and holds what they tell against each other.
func (w *twin) put(q ask) (string, api.Code) {
	w.t.Helper()
	s, e := put(w.c, q)
	want, code := w.m.put(q)
	if s != want || e != code {
		w.t.Fatalf("operation %d at %+v: %q, %d, not %q, %d", q.op, q.at, s, int(e), want, int(code))
	}
	w.look("an operation")
	return s, e
}

// all puts these, which are to go well.
func (w *twin) all(l ...ask) {
	w.t.Helper()
	for _, q := range l {
		w.want(q, api.OK)
	}
}

// want puts q, and holds its code.
func (w *twin) want(q ask, code api.Code) {
	w.t.Helper()
	if _, e := w.put(q); e != code {
		w.t.Fatalf("operation %d at %+v: %d, not %d", q.op, q.at, int(e), int(code))
	}
}

// wantRead holds that a page is read as s.
func (w *twin) wantRead(block, line, part int, s string) {
	w.t.Helper()
	if got, e := w.put(read(block, line, part)); got != s || e != api.OK {
		w.t.Fatalf("Read(%d, %d, %d): %q, %d, not %q", block, line, part, got, int(e), s)
	}
}

// wantCounts holds the counts.
func (w *twin) wantCounts(ops, cuts, rejects int) {
	w.t.Helper()
	if w.c.Ops() != ops || w.c.Cuts() != cuts || w.c.Rejects() != rejects {
		w.t.Fatalf("%d operations, %d cuts, %d refused, not %d, %d, %d", w.c.Ops(), w.c.Cuts(), w.c.Rejects(), ops, cuts, rejects)
	}
}

func (w *twin) power() {
	w.t.Helper()
	w.c.Power()
	w.m.off = false
	w.look("Power")
}

func (w *twin) shake(a, b int) {
	w.t.Helper()
	w.c.Shake(a, b)
	w.m.shaken = []int{a, b}
	w.look("Shake")
}
