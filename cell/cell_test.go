package cell_test

import (
	"strings"
	"testing"

	"deckle/api"
	"deckle/cell"
	"deckle/frame"
)

// far are numbers of no line and no part, at which sums wrap round too.
func far() []int {
	return []int{minInt, minInt + 1, minInt / 2, -1 << 32, -129, -65, -64, -3, -2, -1, 65, 66, 128, 129, 1 << 32, 1<<32 + 1, maxInt / 2, maxInt/2 + 1, maxInt - 1, maxInt}
}

// turns are numbers by which a page is hurt: within the first nine bytes, beyond them, and below 0.
func turns() []int {
	return []int{0, 1, 2, 7, 8, 35, 70, 71, 72, 73, 1000, -1, -70, -71, -72, -73, minInt, minInt + 1, maxInt, maxInt - 1, 1 << 32}
}

func wantNoCell(t *testing.T, lines, bytes int) {
	t.Helper()
	if c, e := cell.New(lines, bytes); c != nil || e != api.ErrGeo {
		t.Errorf("New(%d, %d): a cell %t, %d", lines, bytes, c != nil, int(e))
	}
}

// wantText holds that a page is read as s.
func wantText(t *testing.T, w *twin, line, part int, s string) {
	t.Helper()
	if got, e := w.c.Read(line, part); got != s || e != api.OK {
		t.Errorf("Read(%d, %d): %q, %d, not %q", line, part, got, int(e), s)
	}
}

// wantWhat holds what a page is that is read.
func wantWhat(t *testing.T, w *twin, line, part, what int) {
	t.Helper()
	if s, e := w.c.Read(line, part); e != api.OK || frame.Decode(s).What != what {
		t.Errorf("Read(%d, %d): %q, %d: %d, not %d", line, part, s, int(e), frame.Decode(s).What, what)
	}
}

// The chapter's example.
func TestExample(t *testing.T) {
	w := newTwin(t, 2, 8)
	w.program(1, w.page(1), well, api.ErrReject)
	w.program(0, w.page(0), well, api.OK)
	w.program(1, w.page(1), well, api.OK)
	w.program(2, w.page(2), well, api.ErrReject)
}

// Promise 8.1: lines and bytes that may be, and a cell as at first.
func TestNew(t *testing.T) {
	for lines := 1; lines <= api.MaxLines; lines++ {
		for bytes := 8; bytes <= 256; bytes += 8 {
			if lines > 2 && lines < 63 && bytes != 8 && bytes != 256 {
				continue
			}
			w := newTwin(t, lines, bytes)
			for line := range lines {
				for part := range 3 {
					wantText(t, w, line, part, strings.Repeat("\xff", (bytes+24)/8*9))
					wantWhat(t, w, line, part, api.PErased)
				}
			}
		}
	}
}

// Promise 8.1: lines that are too few or too many, bytes that no page has, and both.
func TestNewWrong(t *testing.T) {
	for _, lines := range append(far(), 0, 65) {
		for _, bytes := range []int{8, 16, 256, 0, 7, 264, -8, minInt, maxInt} {
			wantNoCell(t, lines, bytes)
		}
	}
	for _, lines := range []int{1, 2, 6, 64} {
		for bytes := -300; bytes <= 600; bytes++ {
			if bytes < 8 || bytes > 256 || bytes%8 != 0 {
				wantNoCell(t, lines, bytes)
			}
		}
		for _, bytes := range []int{minInt, minInt + 8, maxInt, maxInt - 7, 1 << 32, 1<<32 + 8, -1 << 32, -1<<32 + 64} {
			wantNoCell(t, lines, bytes)
		}
	}
}

// Promises 8.1 and 8.3: lines of one page, up to the last one; ahead of each all other lines are refused.
func TestProgram(t *testing.T) {
	for _, lines := range []int{1, 2, 3, 6, api.MaxLines} {
		w := newTwin(t, lines, 16)
		for done := range lines {
			for _, line := range append(far(), done-1, done+1, done+2, lines-1, lines, lines+1) {
				if line != done {
					w.program(line, w.page(line), well, api.ErrReject)
				}
			}
			w.program(done, w.page(done), well, api.OK)
		}
		for _, line := range append(far(), 0, lines-1, lines, lines+1) {
			w.program(line, w.page(line), well, api.ErrReject)
		}
		for line := range lines {
			wantText(t, w, line, 0, w.page(line))
			wantWhat(t, w, line, 0, api.PGood)
		}
		if w.c.Mode() != api.MSlc || w.c.Done() != lines {
			t.Errorf("%d lines: mode %d, %d done", lines, w.c.Mode(), w.c.Done())
		}
	}
}

// Promise 8.1: pages of one byte more or less, of none, of other pages' sizes, and of so many bytes of data; any bytes of the right length may be.
func TestProgramSize(t *testing.T) {
	for _, bytes := range []int{8, 16, 64, 256} {
		raw := rawOf(bytes)
		w := newTwin(t, 3, bytes)
		for line := range 3 {
			for _, n := range []int{0, 1, 8, 9, raw - 9, raw - 8, raw - 1, raw + 1, raw + 8, raw + 9, bytes, 2 * raw, 3 * raw} {
				if n != raw {
					w.program(line, noise(n, line), well, api.ErrReject)
					w.program(line, noise(n, line), cut(1, 2), api.ErrReject)
					w.program(line, noise(n, line), fail(1, 2), api.ErrReject)
				}
			}
			w.program(line, noise(raw, line), well, api.OK)
			wantText(t, w, line, 0, noise(raw, line))
		}
	}
}

// Promises 8.1 and 8.3: the steps of chapter 7 up to the last one; a line is blank, then hurt by 0 and 0, then what it was given.
func TestTwoPasses(t *testing.T) {
	for _, lines := range []int{1, 2, 3, 4, 7, 63, api.MaxLines} {
		w := newTwin(t, lines, 8)
		for k, s := range stepsOf(lines) {
			p := w.pages(s.Line)
			w.pass(s, p, well, api.OK)
			for part := range 3 {
				if s.Fine {
					wantText(t, w, s.Line, part, p[part])
					wantWhat(t, w, s.Line, part, api.PGood)
				} else {
					wantText(t, w, s.Line, part, hurtOf(p[part], 0, 0))
					wantWhat(t, w, s.Line, part, api.PBad)
				}
			}
			if w.c.Mode() != api.MTlc || w.c.Done() != k+1 {
				t.Errorf("%d lines, step %d: mode %d, %d done", lines, k, w.c.Mode(), w.c.Done())
			}
		}
		for line := range lines {
			for part := range 3 {
				wantText(t, w, line, part, w.pages(line)[part])
			}
		}
		for line := range lines {
			w.foggy(line, w.pages(line), well, api.ErrReject)
			w.fine(line, w.pages(line), well, api.ErrReject)
		}
	}
}

// Promise 8.1: ahead of each step all others are refused, foggy and fine, however they would go, and so is a page of one bit a cell.
func TestWrongStep(t *testing.T) {
	for _, lines := range []int{1, 2, 3, 6} {
		w := newTwin(t, lines, 8)
		for _, next := range append(stepsOf(lines), api.Step{Line: -1}) {
			for _, line := range append(far(), 0, 1, 2, 3, 4, 5, 6, 7) {
				for _, s := range []api.Step{{Line: line}, {Line: line, Fine: true}} {
					if s != next {
						w.pass(s, w.pages(line), well, api.ErrReject)
						w.pass(s, w.pages(line), cut(1, 1), api.ErrReject)
						w.pass(s, w.pages(line), fail(1, 1), api.ErrReject)
					}
				}
				if w.m.done > 0 {
					w.program(line, w.page(line), well, api.ErrReject)
				}
			}
			if next.Line >= 0 {
				w.pass(next, w.pages(next.Line), well, api.OK)
			}
		}
	}
}

// Promise 8.1: on a cell of the other mode nothing is programmed, at whatever step; erased it takes both modes again.
func TestOtherMode(t *testing.T) {
	for _, w := range states(t, 4, 8) {
		slc, tlc := w.m.mode == api.MSlc, w.m.mode == api.MTlc
		for line := range 5 {
			for _, how := range []api.Fault{well, cut(1, 2), fail(3, 4)} {
				if tlc {
					w.program(line, w.page(line), how, api.ErrReject)
					w.program(w.m.done, w.page(line), how, api.ErrReject)
				}
				if slc {
					w.foggy(line, w.pages(line), how, api.ErrReject)
					w.fine(line, w.pages(line), how, api.ErrReject)
				}
			}
		}
		if slc && w.m.done < 8 {
			s := w.m.steps[w.m.done]
			w.pass(s, w.pages(s.Line), well, api.ErrReject)
		}
		w.erase(well, api.OK)
		o := w.copy()
		w.next(api.MSlc, well, api.OK)
		o.next(api.MTlc, well, api.OK)
	}
}

// Promise 8.1: at each step, foggy and fine, one of three pages of the wrong size is refused, in each place.
func TestPassSize(t *testing.T) {
	for _, bytes := range []int{8, 256} {
		raw := rawOf(bytes)
		w := newTwin(t, 3, bytes)
		for _, s := range stepsOf(3) {
			for part := range 3 {
				for _, n := range []int{0, 1, 9, raw - 9, raw - 1, raw + 1, raw + 9, bytes, 2 * raw} {
					p := w.pages(s.Line)
					p[part] = (p[part] + p[part])[:n]
					w.pass(s, p, well, api.ErrReject)
					w.pass(s, p, cut(1, 2), api.ErrReject)
					w.pass(s, p, fail(1, 2), api.ErrReject)
				}
			}
			w.pass(s, [3]string{}, well, api.ErrReject)
			w.pass(s, w.pages(s.Line), well, api.OK)
		}
	}
}

// Promise 8.1: fine with pages that are not those with which the line was made foggy: one bit, another line's, in another order, what is read, blank.
func TestFineOthers(t *testing.T) {
	w := newTwin(t, 3, 8)
	for _, s := range stepsOf(3) {
		p := w.pages(s.Line)
		if !s.Fine {
			w.pass(s, p, well, api.OK)
			continue
		}
		for part := range 3 {
			for _, other := range []string{hurtOf(p[part], 0, 0), hurtOf(p[part], 9, 9), p[(part+1)%3], w.pages(s.Line + 1)[part], blankOf(8), noise(rawOf(8), 3), p[part][:35] + string([]byte{p[part][35] ^ 0x80})} {
				q := p
				q[part] = other
				w.pass(s, q, well, api.ErrReject)
				w.pass(s, q, cut(1, 2), api.ErrReject)
				w.pass(s, q, fail(1, 2), api.ErrReject)
			}
		}
		w.pass(s, [3]string{p[1], p[2], p[0]}, well, api.ErrReject)
		w.pass(s, [3]string{p[0], p[2], p[1]}, well, api.ErrReject)
		w.pass(s, w.pages(s.Line+1), well, api.ErrReject)
		w.pass(s, p, well, api.OK)
	}
}

// Promise 8.1: any bytes may be made foggy, also three times the same, blank ones, and one's own that are hurt; fine asks for these.
func TestPassAny(t *testing.T) {
	raw := rawOf(8)
	for _, p := range [][3]string{
		{blankOf(8), blankOf(8), blankOf(8)},
		{noise(raw, 1), noise(raw, 1), noise(raw, 1)},
		{strings.Repeat("\x00", raw), noise(raw, 2), blankOf(8)},
		{hurtOf(pageOf(8, 1), 0, 0), pageOf(8, 1), pageOf(8, 1)},
	} {
		w := newTwin(t, 1, 8)
		w.foggy(0, p, well, api.OK)
		w.fine(0, [3]string{hurtOf(p[0], 0, 0), hurtOf(p[1], 0, 0), hurtOf(p[2], 0, 0)}, well, api.ErrReject)
		w.fine(0, p, well, api.OK)
	}
}

// Promise 8.1: whatever Kind is neither a cut nor a failure goes well, whatever else is said.
func TestKinds(t *testing.T) {
	for _, kind := range append(far(), 0, 3, 4, 5, 1<<32+2) {
		for _, at := range []int{0, 1, -1, maxInt} {
			how := api.Fault{At: at, Kind: kind, A: 5, B: 9}
			w := newTwin(t, 2, 8)
			w.program(0, w.page(0), how, api.OK)
			wantText(t, w, 0, 0, w.page(0))
			w.program(1, w.page(1), how, api.OK)
			w.erase(how, api.OK)
			for _, s := range stepsOf(2) {
				w.pass(s, w.pages(s.Line), how, api.OK)
			}
			wantText(t, w, 1, 2, w.pages(1)[2])
			w.erase(how, api.OK)
			w.erase(how, api.OK)
			if slc, tlc := w.c.Counts(); slc != 2 || tlc != 1 {
				t.Errorf("kind %d: counts %d %d", kind, slc, tlc)
			}
		}
	}
}

// Promise 8.1: when a fault comes says nothing here.
func TestFaultAt(t *testing.T) {
	for _, at := range []int{minInt, -1, 0, 1, 2, 100, maxInt} {
		w := newTwin(t, 2, 8)
		w.program(0, w.page(0), api.Fault{At: at, Kind: api.FCut, A: 4, B: 4}, api.ErrPower)
		w.erase(api.Fault{At: at, Kind: api.FCut}, api.ErrPower)
		w.erase(api.Fault{At: at, Kind: api.FFail}, api.ErrFail)
	}
}

// Promises 8.1 and 8.3: each step of each mode, cut: it is done, its pages are hurt, the others stay; nothing more is taken, but to be erased.
func TestCut(t *testing.T) {
	for _, lines := range []int{1, 2, 5} {
		for _, mode := range []int{api.MSlc, api.MTlc} {
			for steps := range all(mode, lines) {
				w := filled(t, lines, 8, mode, steps)
				w.next(mode, cut(17, 3), api.ErrPower)
				if !w.c.Torn() || w.c.Bad() || w.c.Done() != steps+1 || w.c.Mode() != mode {
					t.Errorf("mode %d, cut at %d: torn %t, bad %t, %d done, mode %d", mode, steps, w.c.Torn(), w.c.Bad(), w.c.Done(), w.c.Mode())
				}
				w.refusesAll()
				w.erase(well, api.OK)
				if w.c.Torn() || w.c.Bad() || w.c.Done() != 0 || w.c.Mode() != api.MNone {
					t.Errorf("erased: torn %t, bad %t, %d done, mode %d", w.c.Torn(), w.c.Bad(), w.c.Done(), w.c.Mode())
				}
				for _, again := range []int{api.MSlc, api.MTlc} {
					o := w.copy()
					for range all(again, lines) {
						o.next(again, well, api.OK)
					}
				}
			}
		}
	}
}

// Promises 8.1 and 8.3: each step of each mode, failed: as if cut, but bad, and not even to be erased.
func TestFail(t *testing.T) {
	for _, lines := range []int{1, 2, 5} {
		for _, mode := range []int{api.MSlc, api.MTlc} {
			for steps := range all(mode, lines) {
				w := filled(t, lines, 8, mode, steps)
				w.next(mode, fail(64, 7), api.ErrFail)
				if w.c.Torn() || !w.c.Bad() || w.c.Done() != steps+1 || w.c.Mode() != mode {
					t.Errorf("mode %d, failed at %d: torn %t, bad %t, %d done, mode %d", mode, steps, w.c.Torn(), w.c.Bad(), w.c.Done(), w.c.Mode())
				}
				w.refusesAll()
				for _, how := range []api.Fault{well, cut(1, 2), fail(3, 4), {Kind: api.FFlip}} {
					w.erase(how, api.ErrReject)
				}
				w.refusesAll()
			}
		}
	}
}

// Promise 8.1: the last step of as many lines as there may be, cut and failed.
func TestLastOfMost(t *testing.T) {
	for _, mode := range []int{api.MSlc, api.MTlc} {
		w := filled(t, api.MaxLines, 8, mode, all(mode, api.MaxLines)-1)
		o := w.copy()
		w.next(mode, cut(2, 3), api.ErrPower)
		w.refusesAll()
		w.erase(cut(4, 5), api.ErrPower)
		w.erase(well, api.OK)
		w.next(mode, well, api.OK)
		o.next(mode, fail(6, 7), api.ErrFail)
		o.refusesAll()
		o.erase(well, api.ErrReject)
	}
}

// Promise 8.1: what is hurt by a step that is cut, or fails, is hurt by what the fault says, in each part, and no more than once.
func TestHurtByStep(t *testing.T) {
	for _, a := range turns() {
		for _, b := range turns() {
			for _, kind := range []int{api.FCut, api.FFail} {
				how := api.Fault{Kind: kind, A: a, B: b}
				code := api.ErrPower
				if kind == api.FFail {
					code = api.ErrFail
				}
				w := filled(t, 3, 8, api.MSlc, 1)
				w.next(api.MSlc, how, code)
				wantText(t, w, 0, 0, w.page(0))
				wantText(t, w, 1, 0, hurtOf(w.page(1), a, b))
				wantText(t, w, 2, 0, blankOf(8))
				for steps := range 6 {
					w = filled(t, 3, 8, api.MTlc, steps)
					s := w.m.steps[steps]
					w.next(api.MTlc, how, code)
					for part := range 3 {
						wantText(t, w, s.Line, part, hurtOf(w.pages(s.Line)[part], a, b))
					}
				}
			}
		}
	}
}

// Promise 8.1: erasures of each mode, at each step: blank again, and counted.
func TestErase(t *testing.T) {
	for _, w := range states(t, 4, 16) {
		mode := w.m.mode
		w.erase(well, api.OK)
		slc, tlc := w.c.Counts()
		if mode == api.MTlc && (slc != 0 || tlc != 1) || mode != api.MTlc && (slc != 1 || tlc != 0) {
			t.Errorf("mode %d, erased: counts %d %d", mode, slc, tlc)
		}
		for line := range 4 {
			for part := range 3 {
				wantText(t, w, line, part, blankOf(16))
			}
		}
	}
}

// Promise 8.1: counts go on, each mode's for itself, through cuts and failures too.
func TestCounts(t *testing.T) {
	w := newTwin(t, 2, 8)
	want := [2]int{}
	wantCounts := func() {
		t.Helper()
		if slc, tlc := w.c.Counts(); slc != want[0] || tlc != want[1] {
			t.Errorf("counts %d %d, not %v", slc, tlc, want)
		}
	}
	for range 3 {
		w.erase(well, api.OK)
		want[0]++
		wantCounts()
		w.next(api.MTlc, well, api.OK)
		for range 2 {
			w.erase(cut(1, 2), api.ErrPower)
			want[1]++
			wantCounts()
		}
		w.erase(well, api.OK)
		want[1]++
		wantCounts()
		w.erase(cut(1, 2), api.ErrPower)
		w.erase(cut(1, 2), api.ErrPower)
		w.erase(well, api.OK)
		want[0] += 3
		wantCounts()
		w.next(api.MSlc, well, api.OK)
		w.erase(cut(3, 4), api.ErrPower)
		w.erase(well, api.OK)
		want[0] += 2
		wantCounts()
		w.next(api.MTlc, cut(5, 6), api.ErrPower)
		w.erase(well, api.OK)
		want[1]++
		wantCounts()
	}
	w.next(api.MTlc, well, api.OK)
	w.erase(fail(1, 2), api.ErrFail)
	want[1]++
	wantCounts()
	w.erase(well, api.ErrReject)
	wantCounts()
}

// Promises 8.1 and 8.3: an erasure that is cut, in each mode, at each step: no step is done, all pages are hurt once; erased again, pages are taken again.
func TestEraseCut(t *testing.T) {
	for _, w := range states(t, 4, 8) {
		mode, done := max(w.m.mode, api.MSlc), w.m.done
		before := w.copy()
		w.erase(cut(20, 30), api.ErrPower)
		if w.c.Mode() != mode || w.c.Done() != done || !w.c.Torn() || w.c.Bad() {
			t.Errorf("mode %d, %d done, torn %t, bad %t, not %d, %d", w.c.Mode(), w.c.Done(), w.c.Torn(), w.c.Bad(), mode, done)
		}
		parts := 3
		if mode == api.MSlc {
			parts = 1
		}
		for line := range 4 {
			for part := range parts {
				wantWhat(t, w, line, part, api.PBad)
				was, _ := before.c.Read(line, part)
				if frame.Decode(was).What == api.PBad {
					wantText(t, w, line, part, was)
				} else {
					wantText(t, w, line, part, hurtOf(was, 20, 30))
				}
			}
		}
		w.refusesAll()
		w.erase(well, api.OK)
		w.next(api.MSlc, well, api.OK)
	}
}

// Promises 8.1 and 8.3: an erasure that fails: the same, but bad, and torn just if it was.
func TestEraseFail(t *testing.T) {
	for _, torn := range []bool{false, true} {
		for _, w := range states(t, 4, 8) {
			if torn {
				w.erase(cut(20, 30), api.ErrPower)
			}
			done := w.m.done
			w.erase(fail(40, 50), api.ErrFail)
			if w.c.Torn() != torn || !w.c.Bad() || w.c.Done() != done || w.c.Mode() == api.MNone {
				t.Errorf("torn %t, bad %t, %d done, mode %d", w.c.Torn(), w.c.Bad(), w.c.Done(), w.c.Mode())
			}
			for line := range 4 {
				wantWhat(t, w, line, 0, api.PBad)
			}
			w.refusesAll()
			w.erase(well, api.ErrReject)
			w.erase(cut(1, 1), api.ErrReject)
			w.erase(fail(1, 1), api.ErrReject)
		}
	}
}

// Promises 8.1 and 8.3: erasures that are cut twice, by the same bits and by others, or fail the second time: pages stay hurt as they were at first.
func TestEraseCutTwice(t *testing.T) {
	for _, first := range turns() {
		for _, second := range turns() {
			for _, w := range []*twin{newTwin(t, 2, 8), filled(t, 2, 8, api.MSlc, 1), filled(t, 2, 8, api.MTlc, 1), filled(t, 2, 8, api.MTlc, 3)} {
				w.erase(cut(first, second), api.ErrPower)
				s, _ := w.c.Read(1, 0)
				o := w.copy()
				w.erase(cut(first, second), api.ErrPower)
				wantText(t, w, 1, 0, s)
				w.erase(cut(second, first), api.ErrPower)
				wantText(t, w, 1, 0, s)
				w.erase(well, api.OK)
				wantText(t, w, 1, 0, blankOf(8))
				o.erase(fail(first, second), api.ErrFail)
				wantText(t, o, 1, 0, s)
			}
		}
	}
}

// Promise 8.3: by whatever bits an erasure is cut, a page that is hurt stays bad: one that was foggy, one whose step was cut, and a blank one.
func TestHurtStaysBad(t *testing.T) {
	for a := range 72 {
		for b := range 71 {
			foggy := filled(t, 1, 8, api.MTlc, 1)
			wantWhat(t, foggy, 0, 1, api.PBad)
			foggy.erase(cut(a, b), api.ErrPower)
			wantText(t, foggy, 0, 1, hurtOf(foggy.pages(0)[1], 0, 0))
			torn := newTwin(t, 1, 8)
			torn.next(api.MSlc, cut(a, b), api.ErrPower)
			wantWhat(t, torn, 0, 0, api.PBad)
			torn.erase(cut(a, b), api.ErrPower)
			wantWhat(t, torn, 0, 0, api.PBad)
			blank := newTwin(t, 1, 8)
			blank.erase(cut(a, b), api.ErrPower)
			wantWhat(t, blank, 0, 0, api.PBad)
			fine := filled(t, 1, 8, api.MTlc, 2)
			fine.erase(cut(a, b), api.ErrPower)
			wantWhat(t, fine, 0, 2, api.PBad)
		}
	}
}

// Promise 8.1: lines and parts that are none, far out too, in each mode, at each step, torn and bad.
func TestReadNone(t *testing.T) {
	for _, w := range states(t, 3, 8) {
		torn, bad := w.copy(), w.copy()
		torn.erase(cut(1, 2), api.ErrPower)
		bad.erase(fail(1, 2), api.ErrFail)
		for _, o := range []*twin{w, torn, bad} {
			for _, v := range append(far(), 0, 1, 2, 3, 4) {
				for _, u := range append(far(), 0, 1, 2, 3, 4) {
					o.wantRead("far out", v, u)
				}
			}
		}
	}
}

// Promise 8.1: of one bit a cell the parts 1 and 2 are refused, from the first step on, until it is erased.
func TestReadParts(t *testing.T) {
	wantParts := func(w *twin, code api.Code) {
		t.Helper()
		for line := range 3 {
			for part := 1; part <= 2; part++ {
				if s, e := w.c.Read(line, part); e != code || (s != "") != (code == api.OK) {
					t.Errorf("Read(%d, %d): %q, %d, not %d", line, part, s, int(e), int(code))
				}
			}
		}
	}
	w := newTwin(t, 3, 8)
	wantParts(w, api.OK)
	for range 3 {
		w.next(api.MSlc, well, api.OK)
		wantParts(w, api.ErrReject)
	}
	w.erase(cut(0, 0), api.ErrPower)
	wantParts(w, api.ErrReject)
	w.erase(well, api.OK)
	wantParts(w, api.OK)
	w.erase(cut(0, 0), api.ErrPower)
	wantParts(w, api.ErrReject)
	w.erase(well, api.OK)
	w.next(api.MTlc, well, api.OK)
	wantParts(w, api.OK)
	w.erase(fail(0, 0), api.ErrFail)
	wantParts(w, api.OK)
}

// Promise 8.1: a line that is none, one that is foggy, one that is fine and one that is hurt, beside each other.
func TestReadLines(t *testing.T) {
	w := filled(t, 5, 8, api.MTlc, 5)
	p := [][3]string{w.pages(0), w.pages(1), w.pages(2), w.pages(3)}
	w.foggy(3, p[3], cut(30, 40), api.ErrPower)
	for part := range 3 {
		wantText(t, w, 0, part, p[0][part])
		wantText(t, w, 1, part, p[1][part])
		wantText(t, w, 2, part, hurtOf(p[2][part], 0, 0))
		wantText(t, w, 3, part, hurtOf(p[3][part], 30, 40))
		wantText(t, w, 4, part, blankOf(8))
	}
	w.erase(cut(50, 60), api.ErrPower)
	for part := range 3 {
		wantText(t, w, 0, part, hurtOf(p[0][part], 50, 60))
		wantText(t, w, 1, part, hurtOf(p[1][part], 50, 60))
		wantText(t, w, 2, part, hurtOf(p[2][part], 0, 0))
		wantText(t, w, 3, part, hurtOf(p[3][part], 30, 40))
		wantText(t, w, 4, part, hurtOf(blankOf(8), 50, 60))
	}
}

// Promise 8.1: a fine step that is cut: the line is hurt as it says, the foggy one behind it stays hurt by 0 and 0.
func TestReadFineCut(t *testing.T) {
	w := filled(t, 3, 8, api.MTlc, 4)
	w.fine(1, w.pages(1), cut(11, 12), api.ErrPower)
	for part := range 3 {
		wantText(t, w, 0, part, w.pages(0)[part])
		wantText(t, w, 1, part, hurtOf(w.pages(1)[part], 11, 12))
		wantText(t, w, 2, part, hurtOf(w.pages(2)[part], 0, 0))
	}
}

// Promise 8.2: a copy at each step, torn and bad ones too; whatever is done to one is not done to the other.
func TestCopy(t *testing.T) {
	for _, first := range states(t, 3, 8) {
		torn, bad := first.copy(), first.copy()
		torn.erase(cut(1, 2), api.ErrPower)
		bad.erase(fail(3, 4), api.ErrFail)
		for _, w := range []*twin{first, torn, bad} {
			for _, how := range []api.Fault{well, cut(5, 6), fail(7, 8)} {
				for _, side := range []bool{false, true} {
					for op := range 4 {
						one := w.copy()
						other := one.copy()
						if side {
							one, other = other, one
						}
						one.any(op, how)
						other.look("the other one")
						other.any((op+1)%4, well)
						one.look("the one")
						one.any(3, how)
						other.look("the other one, at last")
					}
				}
			}
		}
		first.look("the first one")
	}
}

// any does an operation, whatever it comes to.
func (w *twin) any(op int, how api.Fault) {
	w.t.Helper()
	line := w.m.done
	if w.m.mode != api.MSlc && line < len(w.m.steps) {
		line = w.m.steps[line].Line
	}
	var got, want api.Code
	switch op {
	case 0:
		got, want = w.c.Program(line, w.page(line), how), w.m.program(line, w.page(line), how)
	case 1:
		got, want = w.c.Foggy(line, w.pages(line), how), w.m.pass(api.Step{Line: line}, w.pages(line), how)
	case 2:
		got, want = w.c.Fine(line, w.pages(line), how), w.m.pass(api.Step{Line: line, Fine: true}, w.pages(line), how)
	default:
		got, want = w.c.Erase(how), w.m.erase(how)
	}
	w.came("any", got, want, want)
}

// Promise 8.2: a copy is new: never nil, never the cell itself, and a copy of a copy is one too.
func TestCopyOfCopy(t *testing.T) {
	w := filled(t, 3, 8, api.MTlc, 3)
	o := w.copy()
	p := o.copy()
	if w.c == o.c || o.c == p.c || w.c == p.c {
		t.Error("a copy is the cell itself")
	}
	o.erase(well, api.OK)
	o.next(api.MSlc, well, api.OK)
	p.next(api.MTlc, fail(1, 2), api.ErrFail)
	w.look("the first one")
	o.look("its copy")
	p.look("its copy's copy")
}

// Promises 8.1 to 8.3: long ways through cells, all operations in any order, wrong ones among them, each held against the chapter's words.
func TestAnyWay(t *testing.T) {
	for seed := range 400 {
		state := uint32(seed)*747796405 + 2891336453
		pick := func(n int) int {
			state = state*1664525 + 1013904223
			return int(state>>8) % n
		}
		w := newTwin(t, 1+pick(6), 8*(1+pick(4)))
		for range 120 {
			w.wander(pick)
		}
	}
}

// wander does one operation that pick chooses; most of them may be.
func (w *twin) wander(pick func(int) int) {
	w.t.Helper()
	how := api.Fault{At: pick(9), A: pick(200) - 100, B: pick(200) - 100}
	if pick(12) == 0 {
		how.Kind = pick(5) - 1
	}
	if how.Kind == api.FFail && pick(4) > 0 {
		how.Kind = api.FCut
	}
	line := pick(w.m.lines+2) - 1
	p, s := w.pages(line), api.Step{Line: line, Fine: pick(2) == 0}
	switch pick(10) {
	case 0, 1:
		w.any(0, how)
	case 2, 3, 4:
		w.any(1, how)
	case 5, 6, 7:
		w.any(2, how)
	case 8:
		if pick(2) == 0 {
			w.any(3, how)
		}
	default:
		p[pick(3)] = noise(rawOf(w.m.bytes)-pick(2), pick(4))
		got, want := w.c.Foggy(s.Line, p, how), w.m.pass(api.Step{Line: s.Line}, p, how)
		w.came("Foggy", got, want, want)
		got, want = w.c.Program(line, p[0], how), w.m.program(line, p[0], how)
		w.came("Program", got, want, want)
	}
}
