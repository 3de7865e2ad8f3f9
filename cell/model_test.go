package cell_test

import (
	"math"
	"slices"
	"strings"
	"testing"

	"deckle/api"
	"deckle/cell"
	"deckle/frame"
)

const maxInt, minInt = math.MaxInt, math.MinInt

// How it goes: well, cut or failed, with the bits that are hurt.
func cut(a, b int) api.Fault  { return api.Fault{Kind: api.FCut, A: a, B: b} }
func fail(a, b int) api.Fault { return api.Fault{Kind: api.FFail, A: a, B: b} }

var well = api.Fault{}

// rawOf answers how many bytes on the chip a page of so many bytes of data has.
func rawOf(bytes int) int { return (bytes + 24) / 8 * 9 }

func blankOf(bytes int) string { return strings.Repeat("\xff", rawOf(bytes)) }

// noise answers n bytes of all values, the same ones of each number.
func noise(n, number int) string {
	b, seed := make([]byte, n), uint32(number)*2654435761+12345
	for i := range b {
		seed = seed*1664525 + 1013904223
		b[i] = byte(seed >> 24)
	}
	return string(b)
}

// pageOf answers a page with so many bytes of data, another one of each number.
func pageOf(bytes, number int) string {
	// Lines that are none have pages, too.
	small := number & 0xfff
	s, e := frame.Encode(api.Tag{Kind: api.KData, Lba: small, Seq: small, Epoch: 7}, noise(bytes, small))
	if e != api.OK {
		panic("no page")
	}
	return s
}

// pagesOf answers a line's three pages.
func pagesOf(bytes, number int) [3]string {
	return [3]string{pageOf(bytes, 3*number), pageOf(bytes, 3*number+1), pageOf(bytes, 3*number+2)}
}

// hurtOf answers s with the two bits turned that chapter 5 names.
func hurtOf(s string, a, b int) string {
	first := (a%72 + 72) % 72
	second := first
	for range (b%71+71)%71 + 1 {
		if second++; second == 72 {
			second = 0
		}
	}
	l := []byte(s)
	l[first/8] ^= 1 << (first % 8)
	l[second/8] ^= 1 << (second % 8)
	return string(l)
}

// stepsOf answers the steps of chapter 7.
func stepsOf(lines int) []api.Step {
	l := []api.Step{{Line: 0}}
	for line := 1; line < lines; line++ {
		l = append(l, api.Step{Line: line}, api.Step{Line: line - 1, Fine: true})
	}
	return append(l, api.Step{Line: lines - 1, Fine: true})
}

// modelPage is a page as it is read, and whether that is hurt; given is with what its line was made foggy.
type modelPage struct {
	read, given string
	hurt        bool
}

// model is what the chapter says of a cell, page by page, as each is read.
type model struct {
	lines, bytes  int
	mode, done    int
	slc, tlc      int
	isBad, isTorn bool
	pages         [][3]modelPage
	steps         []api.Step
}

func newModel(lines, bytes int) *model {
	m := &model{lines: lines, bytes: bytes, steps: stepsOf(lines)}
	m.clear()
	return m
}

func (m *model) clear() {
	m.pages = make([][3]modelPage, m.lines)
	for i := range m.pages {
		for k := range 3 {
			m.pages[i][k].read = blankOf(m.bytes)
		}
	}
	m.mode, m.done, m.isTorn = api.MNone, 0, false
}

func (m *model) copy() *model {
	o := *m
	o.pages = slices.Clone(m.pages)
	return &o
}

// end sets the flag that how leads to, and answers what an operation comes to.
func (m *model) end(how api.Fault) api.Code {
	if how.Kind == 1 {
		m.isTorn = true
		return api.ErrPower
	}
	if how.Kind == 2 {
		m.isBad = true
		return api.ErrFail
	}
	return api.OK
}

func breaks(how api.Fault) bool { return how.Kind == 1 || how.Kind == 2 }

func (m *model) program(line int, page string, how api.Fault) api.Code {
	if m.isBad || m.isTorn || m.mode == 2 || line != m.done || line < 0 || line >= m.lines || len(page) != rawOf(m.bytes) {
		return api.ErrReject
	}
	m.mode, m.done = 1, m.done+1
	p := &m.pages[line][0]
	if p.read = page; breaks(how) {
		p.read, p.hurt = hurtOf(page, how.A, how.B), true
	}
	return m.end(how)
}

func (m *model) pass(s api.Step, pages [3]string, how api.Fault) api.Code {
	if m.isBad || m.isTorn || m.mode == 1 || m.done >= len(m.steps) || m.steps[m.done] != s {
		return api.ErrReject
	}
	for k, page := range pages {
		if len(page) != rawOf(m.bytes) || s.Fine && page != m.pages[s.Line][k].given {
			return api.ErrReject
		}
	}
	m.mode, m.done = 2, m.done+1
	for k, page := range pages {
		switch {
		case breaks(how):
			m.pages[s.Line][k] = modelPage{hurtOf(page, how.A, how.B), page, true}
		case s.Fine:
			m.pages[s.Line][k] = modelPage{page, page, false}
		default:
			m.pages[s.Line][k] = modelPage{hurtOf(page, 0, 0), page, true}
		}
	}
	return m.end(how)
}

func (m *model) erase(how api.Fault) api.Code {
	if m.isBad {
		return api.ErrReject
	}
	if m.mode == 2 {
		m.tlc++
	} else {
		m.slc++
	}
	if !breaks(how) {
		m.clear()
		return api.OK
	}
	for i := range m.pages {
		for k := range 3 {
			if p := &m.pages[i][k]; !p.hurt {
				p.read, p.hurt = hurtOf(p.read, how.A, how.B), true
			}
		}
	}
	if m.mode == 0 {
		m.mode = 1
	}
	return m.end(how)
}

func (m *model) read(line, part int) (string, api.Code) {
	if line < 0 || line >= m.lines || part < 0 || part > 2 || m.mode == 1 && part > 0 {
		return "", api.ErrReject
	}
	return m.pages[line][part].read, api.OK
}

// twin is a cell, and what the chapter says of it: whatever is done to it is held against that.
type twin struct {
	t *testing.T
	c *cell.Cell
	m *model
}

func newTwin(t *testing.T, lines, bytes int) *twin {
	t.Helper()
	c, e := cell.New(lines, bytes)
	if c == nil || e != api.OK {
		t.Fatalf("New(%d, %d): a cell %t, %d", lines, bytes, c != nil, int(e))
	}
	w := &twin{t, c, newModel(lines, bytes)}
	w.look("New")
	return w
}

func (w *twin) copy() *twin {
	w.t.Helper()
	o := &twin{w.t, w.c.Copy(), w.m.copy()}
	o.look("Copy")
	return o
}

// look holds all that the cell tells against what it must tell.
func (w *twin) look(after string) {
	w.t.Helper()
	c, m := w.c, w.m
	slc, tlc := c.Counts()
	if c.Mode() != m.mode || c.Done() != m.done || c.Bad() != m.isBad || c.Torn() != m.isTorn || slc != m.slc || tlc != m.tlc {
		w.t.Fatalf("%s: mode %d, done %d, bad %t, torn %t, counts %d %d, not %d, %d, %t, %t, %d %d", after,
			c.Mode(), c.Done(), c.Bad(), c.Torn(), slc, tlc, m.mode, m.done, m.isBad, m.isTorn, m.slc, m.tlc)
	}
	for line := -1; line <= m.lines; line++ {
		for part := -1; part <= 3; part++ {
			w.wantRead(after, line, part)
		}
	}
}

func (w *twin) wantRead(after string, line, part int) {
	w.t.Helper()
	s, e := w.c.Read(line, part)
	if want, code := w.m.read(line, part); s != want || e != code {
		w.t.Fatalf("%s: Read(%d, %d): %q, %d, not %q, %d", after, line, part, s, int(e), want, int(code))
	}
}

// came holds what an operation answered against what the model says, and both against what the test wants.
func (w *twin) came(what string, got, model, want api.Code) {
	w.t.Helper()
	if got != model || got != want {
		w.t.Fatalf("%s: %d, not %d (of the model %d)", what, int(got), int(want), int(model))
	}
	w.look(what)
}

func (w *twin) program(line int, page string, how api.Fault, want api.Code) {
	w.t.Helper()
	w.came("Program", w.c.Program(line, page, how), w.m.program(line, page, how), want)
}

func (w *twin) foggy(line int, pages [3]string, how api.Fault, want api.Code) {
	w.t.Helper()
	w.came("Foggy", w.c.Foggy(line, pages, how), w.m.pass(api.Step{Line: line}, pages, how), want)
}

func (w *twin) fine(line int, pages [3]string, how api.Fault, want api.Code) {
	w.t.Helper()
	w.came("Fine", w.c.Fine(line, pages, how), w.m.pass(api.Step{Line: line, Fine: true}, pages, how), want)
}

// pass does the step s, or tries to.
func (w *twin) pass(s api.Step, pages [3]string, how api.Fault, want api.Code) {
	w.t.Helper()
	if s.Fine {
		w.fine(s.Line, pages, how, want)
	} else {
		w.foggy(s.Line, pages, how, want)
	}
}

func (w *twin) erase(how api.Fault, want api.Code) {
	w.t.Helper()
	w.came("Erase", w.c.Erase(how), w.m.erase(how), want)
}

// page and pages answer what the test has for a line.
func (w *twin) page(line int) string { return pageOf(w.m.bytes, line+1) }

func (w *twin) pages(line int) [3]string { return pagesOf(w.m.bytes, line+1) }

// next does the next step of the mode, in the way how.
func (w *twin) next(mode int, how api.Fault, want api.Code) {
	w.t.Helper()
	if mode == api.MSlc {
		w.program(w.m.done, w.page(w.m.done), how, want)
		return
	}
	s := w.m.steps[w.m.done]
	w.pass(s, w.pages(s.Line), how, want)
}

// filled answers a cell of so many lines in which so many steps of the mode were done.
func filled(t *testing.T, lines, bytes, mode, steps int) *twin {
	t.Helper()
	w := newTwin(t, lines, bytes)
	for range steps {
		w.next(mode, well, api.OK)
	}
	return w
}

// refusesAll holds that nothing can be programmed: in no mode, on no line.
func (w *twin) refusesAll() {
	w.t.Helper()
	for line := -1; line <= w.m.lines; line++ {
		for _, how := range []api.Fault{well, cut(3, 4), fail(5, 6)} {
			w.program(line, w.page(line), how, api.ErrReject)
			w.foggy(line, w.pages(line), how, api.ErrReject)
			w.fine(line, w.pages(line), how, api.ErrReject)
		}
	}
}

// all answers how many steps fill the mode.
func all(mode, lines int) int {
	if mode == api.MSlc {
		return lines
	}
	return 2 * lines
}

// states answers cells of each mode in which each number of steps was done.
func states(t *testing.T, lines, bytes int) []*twin {
	t.Helper()
	l := []*twin{newTwin(t, lines, bytes)}
	for _, mode := range []int{api.MSlc, api.MTlc} {
		for steps := 1; steps <= all(mode, lines); steps++ {
			l = append(l, filled(t, lines, bytes, mode, steps))
		}
	}
	return l
}
