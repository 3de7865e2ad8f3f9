package order_test

import (
	"math"
	"slices"
	"testing"

	"deckle/api"
	"deckle/order"
)

const maxInt, minInt = math.MaxInt, math.MinInt

// What a line is: the chapter's numbers.
const isNone, isFoggy, isFine = 0, 1, 2

// f and g are a line's foggy step, and its fine one.
func f(line int) api.Step { return api.Step{Line: line} }
func g(line int) api.Step { return api.Step{Line: line, Fine: true} }

// wrong are numbers of lines that no block has: next to those that may be, and those at which sums and products wrap round.
func wrong() []int {
	return []int{0, -1, -2, -63, -64, -65, 65, 66, 127, 128, 129, 1000, minInt, minInt + 1, minInt / 2, minInt/2 + 1, maxInt, maxInt - 1, maxInt / 2, maxInt/2 + 1, maxInt/2 + 2, 1 << 32, 1<<32 + 3, 1<<62 + 3, 1<<63 - 64, -1 << 32}
}

// far are numbers of no step and no line of any block.
func far() []int {
	return []int{-1, -2, -64, -65, -128, -129, 129, 130, 256, 1000, minInt, minInt + 1, minInt + 2, minInt / 2, maxInt, maxInt - 1, maxInt / 2, maxInt/2 + 1, 1 << 32, 1<<32 + 1, -1 << 32, 1<<31 - 1, 1 << 31}
}

// stepsOf answers the steps by what follows from the chapter's words: which line is foggy, and which is fine, at each place.
func stepsOf(lines int) []api.Step {
	l := make([]api.Step, 2*lines)
	for k := range l {
		if k%2 == 0 {
			l[k] = g(k/2 - 1)
		} else {
			l[k] = f(k/2 + 1)
		}
	}
	l[0], l[2*lines-1] = f(0), g(lines-1)
	return l
}

// taken answers what Steps tells, up to n of it.
func taken(lines, n int) []api.Step {
	var l []api.Step
	for s := range order.Steps(lines) {
		if l = append(l, s); len(l) == n {
			break
		}
	}
	return l
}

func wantAt(t *testing.T, lines, k int, want api.Step, code api.Code) {
	t.Helper()
	if s, e := order.At(lines, k); s != want || e != code {
		t.Errorf("At(%d, %d): %+v, %d, not %+v, %d", lines, k, s, int(e), want, int(code))
	}
}

func wantPlace(t *testing.T, lines int, s api.Step, want int, code api.Code) {
	t.Helper()
	if k, e := order.Place(lines, s); k != want || e != code {
		t.Errorf("Place(%d, %+v): %d, %d, not %d, %d", lines, s, k, int(e), want, int(code))
	}
}

func wantAfter(t *testing.T, lines, k, line, want int, code api.Code) {
	t.Helper()
	if is, e := order.After(lines, k, line); is != want || e != code {
		t.Errorf("After(%d, %d, %d): %d, %d, not %d, %d", lines, k, line, is, int(e), want, int(code))
	}
}

// The chapter's example.
func TestExample(t *testing.T) {
	if l := slices.Collect(order.Steps(3)); !slices.Equal(l, []api.Step{f(0), f(1), g(0), f(2), g(1), g(2)}) {
		t.Errorf("Steps(3): %+v", l)
	}
}

// Promise 7.1: few lines, step by step, and the ends of many.
func TestStepsKnown(t *testing.T) {
	for lines, want := range [][]api.Step{
		1: {f(0), g(0)},
		2: {f(0), f(1), g(0), g(1)},
		4: {f(0), f(1), g(0), f(2), g(1), f(3), g(2), g(3)},
		5: {f(0), f(1), g(0), f(2), g(1), f(3), g(2), f(4), g(3), g(4)},
	} {
		if l := slices.Collect(order.Steps(lines)); want != nil && !slices.Equal(l, want) {
			t.Errorf("Steps(%d): %+v, not %+v", lines, l, want)
		}
	}
	l := slices.Collect(order.Steps(api.MaxLines))
	if len(l) != 128 {
		t.Fatalf("Steps(MaxLines): %d steps", len(l))
	}
	if !slices.Equal(l[:4], []api.Step{f(0), f(1), g(0), f(2)}) || !slices.Equal(l[123:], []api.Step{f(62), g(61), f(63), g(62), g(63)}) {
		t.Errorf("Steps(MaxLines): %+v", l)
	}
}

// Promise 7.1: the steps of each number of lines, to their end, and again.
func TestSteps(t *testing.T) {
	for lines := 1; lines <= api.MaxLines; lines++ {
		want := stepsOf(lines)
		steps := order.Steps(lines)
		for range 3 {
			if l := slices.Collect(steps); !slices.Equal(l, want) {
				t.Errorf("Steps(%d): %+v, not %+v", lines, l, want)
			}
		}
	}
}

// Promise 7.1: steps broken off at each place, the first and the last ones too, and then taken from the front again.
func TestStepsBrokenOff(t *testing.T) {
	for lines := 1; lines <= api.MaxLines; lines++ {
		want := stepsOf(lines)
		steps := order.Steps(lines)
		for n := 1; n <= len(want); n++ {
			var l []api.Step
			// Called by hand, so that a call behind the one that broke it off is seen.
			steps(func(s api.Step) bool {
				l = append(l, s)
				return len(l) < n
			})
			if !slices.Equal(l, want[:n]) {
				t.Errorf("Steps(%d), broken off after %d: %+v", lines, n, l)
			}
			if l := taken(lines, n); !slices.Equal(l, want[:n]) {
				t.Errorf("Steps(%d), the first %d: %+v", lines, n, l)
			}
		}
		if l := slices.Collect(steps); !slices.Equal(l, want) {
			t.Errorf("Steps(%d), broken off, and taken again: %+v", lines, l)
		}
	}
}

// Promise 7.1: steps that are taken while the same ones are being taken.
func TestStepsWithinSteps(t *testing.T) {
	steps := order.Steps(6)
	var outer []api.Step
	for s := range steps {
		outer = append(outer, s)
		if l := slices.Collect(steps); !slices.Equal(l, stepsOf(6)) {
			t.Errorf("Steps(6) within its own, at %+v: %+v", s, l)
		}
	}
	if !slices.Equal(outer, stepsOf(6)) {
		t.Errorf("Steps(6) around its own: %+v", outer)
	}
}

// Promise 7.1: of a number of lines that may not be there are no steps, but there is something to range over.
func TestStepsWrong(t *testing.T) {
	for _, lines := range wrong() {
		steps := order.Steps(lines)
		if steps == nil {
			t.Errorf("Steps(%d): nil", lines)
			continue
		}
		for range 2 {
			for s := range steps {
				t.Errorf("Steps(%d): %+v", lines, s)
				break
			}
		}
	}
}

// Promise 7.1: At and Place: each step of each number of lines, there and back.
func TestThereAndBack(t *testing.T) {
	for lines := 1; lines <= api.MaxLines; lines++ {
		for k, s := range stepsOf(lines) {
			wantAt(t, lines, k, s, api.OK)
			wantPlace(t, lines, s, k, api.OK)
		}
		for line := range lines {
			for _, s := range []api.Step{f(line), g(line)} {
				k, e := order.Place(lines, s)
				if e != api.OK {
					t.Errorf("Place(%d, %+v): %d", lines, s, int(e))
				}
				wantAt(t, lines, k, s, api.OK)
			}
		}
	}
}

// Promise 7.1: steps and places at the edges, told one by one.
func TestAtAndPlaceKnown(t *testing.T) {
	for _, c := range []struct {
		lines, k int
		s        api.Step
	}{
		{1, 0, f(0)}, {1, 1, g(0)}, {2, 0, f(0)}, {2, 1, f(1)}, {2, 2, g(0)}, {2, 3, g(1)},
		{64, 0, f(0)}, {64, 1, f(1)}, {64, 2, g(0)}, {64, 63, f(32)}, {64, 64, g(31)}, {64, 125, f(63)}, {64, 126, g(62)}, {64, 127, g(63)},
	} {
		wantAt(t, c.lines, c.k, c.s, api.OK)
		wantPlace(t, c.lines, c.s, c.k, api.OK)
	}
}

// Promise 7.1: steps and lines that there are none of, one beyond, below 0 and far out.
func TestAtAndPlaceBeyond(t *testing.T) {
	for lines := 1; lines <= api.MaxLines; lines++ {
		for _, k := range append(far(), 2*lines, 2*lines+1, -2*lines) {
			wantAt(t, lines, k, api.Step{}, api.ErrRange)
		}
		for _, line := range append(far(), lines, lines+1, 2*lines, -lines) {
			wantPlace(t, lines, f(line), 0, api.ErrRange)
			wantPlace(t, lines, g(line), 0, api.ErrRange)
		}
	}
}

// Promises 7.1 and 7.2: numbers of lines that may not be, with steps and lines that others have, and with any.
func TestWrongLines(t *testing.T) {
	for _, lines := range wrong() {
		for _, v := range append(far(), 0, 1, 2, 63, 64, 65, 127, 128, lines, lines-1, lines+1, 2*lines, 2*lines-1, 2*lines+1) {
			wantAt(t, lines, v, api.Step{}, api.ErrRange)
			wantPlace(t, lines, f(v), 0, api.ErrRange)
			wantPlace(t, lines, g(v), 0, api.ErrRange)
			for _, w := range []int{0, 1, -1, v, lines, 2 * lines, minInt, maxInt} {
				wantAfter(t, lines, v, w, 0, api.ErrRange)
				wantAfter(t, lines, w, v, 0, api.ErrRange)
			}
		}
	}
}

// Promise 7.2: each line of each number of lines, after each number of steps, done one by one.
func TestAfter(t *testing.T) {
	for lines := 1; lines <= api.MaxLines; lines++ {
		is := make([]int, lines)
		for k := 0; ; k++ {
			for line, want := range is {
				wantAfter(t, lines, k, line, want, api.OK)
			}
			if k == 2*lines {
				break
			}
			if s := stepsOf(lines)[k]; s.Fine {
				is[s.Line] = isFine
			} else {
				is[s.Line] = isFoggy
			}
		}
	}
}

// Promise 7.2: no step and all steps, the first line and the last one, told one by one.
func TestAfterKnown(t *testing.T) {
	for _, c := range []struct{ lines, k, line, want int }{
		{1, 0, 0, isNone}, {1, 1, 0, isFoggy}, {1, 2, 0, isFine},
		{2, 0, 0, isNone}, {2, 1, 0, isFoggy}, {2, 2, 0, isFoggy}, {2, 3, 0, isFine}, {2, 4, 0, isFine},
		{2, 0, 1, isNone}, {2, 1, 1, isNone}, {2, 2, 1, isFoggy}, {2, 3, 1, isFoggy}, {2, 4, 1, isFine},
		{3, 5, 1, isFine}, {3, 4, 1, isFoggy}, {3, 5, 2, isFoggy}, {3, 3, 2, isNone},
		{64, 0, 0, isNone}, {64, 0, 63, isNone}, {64, 128, 0, isFine}, {64, 128, 63, isFine},
		{64, 1, 0, isFoggy}, {64, 2, 0, isFoggy}, {64, 3, 0, isFine}, {64, 125, 63, isNone}, {64, 126, 63, isFoggy}, {64, 127, 63, isFoggy},
		{64, 126, 62, isFoggy}, {64, 127, 62, isFine}, {64, 123, 62, isNone}, {64, 124, 62, isFoggy},
	} {
		wantAfter(t, c.lines, c.k, c.line, c.want, api.OK)
	}
}

// Promise 7.2: steps one beyond all, below none and far out, and lines likewise.
func TestAfterBeyond(t *testing.T) {
	for lines := 1; lines <= api.MaxLines; lines++ {
		steps := append(far(), 2*lines+1, 2*lines+2, -2*lines, -lines)
		others := append(far(), lines, lines+1, 2*lines, -lines)
		for _, k := range steps {
			for line := range lines {
				wantAfter(t, lines, k, line, 0, api.ErrRange)
			}
			for _, line := range others {
				wantAfter(t, lines, k, line, 0, api.ErrRange)
			}
		}
		for _, line := range others {
			for k := 0; k <= 2*lines; k++ {
				wantAfter(t, lines, k, line, 0, api.ErrRange)
			}
		}
	}
}

// Promise 7.3: each line is foggy once, and fine once, just behind the step by which the line behind it is foggy, or at last.
func TestEachOnce(t *testing.T) {
	for lines := 1; lines <= api.MaxLines; lines++ {
		at, times := map[api.Step]int{}, map[api.Step]int{}
		n := 0
		for s := range order.Steps(lines) {
			at[s] = n
			times[s]++
			n++
		}
		if n != 2*lines || len(times) != 2*lines {
			t.Errorf("of %d lines %d steps, of which %d are different", lines, n, len(times))
		}
		for line := range lines {
			if times[f(line)] != 1 || times[g(line)] != 1 {
				t.Errorf("of %d lines the line %d: %d times foggy, %d times fine", lines, line, times[f(line)], times[g(line)])
			}
			ahead := n - 2
			if line < lines-1 {
				ahead = at[f(line+1)]
			}
			if at[g(line)] != ahead+1 {
				t.Errorf("of %d lines the line %d is fine at %d, behind %d", lines, line, at[g(line)], ahead)
			}
		}
	}
}

// Promise 7.3: no more than two lines at a time are foggy, and lines are none, foggy and fine in one order, from the last line to the first.
func TestFoggyAtATime(t *testing.T) {
	for lines := 1; lines <= api.MaxLines; lines++ {
		most := 0
		for k := 0; k <= 2*lines; k++ {
			open, ahead := 0, isFine
			for line := range lines {
				is, e := order.After(lines, k, line)
				if e != api.OK || is > ahead {
					t.Errorf("After(%d, %d, %d): %d, %d, the line ahead of it %d", lines, k, line, is, int(e), ahead)
				}
				if ahead = is; is == isFoggy {
					open++
				}
			}
			most = max(most, open)
		}
		if most != min(lines, 2) {
			t.Errorf("of %d lines %d are foggy at a time", lines, most)
		}
	}
}
