package fault_test

import (
	"math"
	"slices"
	"strings"
	"testing"

	"deckle/api"
	"deckle/fault"
	"deckle/frame"
)

const maxInt, minInt = math.MaxInt, math.MinInt

// spare is a fault that lies behind a list's length, or has been put into a list since.
var spare = api.Fault{At: 3, Kind: api.FCut, A: 77, B: 78}

// kinds are those that there are, those next to them, and those that are one of them in their lowest bits alone.
func kinds() []int {
	return []int{1, 2, 3, 0, 4, 5, -1, -2, -3, 1<<32 + 1, 1<<32 + 2, 1<<32 + 3, 257, minInt, minInt + 1, maxInt}
}

// numbers are numbers of operations, from the least to the greatest.
func numbers() []int {
	return []int{minInt, minInt + 1, -1 << 32, -2, -1, 0, 1, 2, 3, 1<<31 - 1, 1 << 31, 1 << 32, 1<<32 + 1, maxInt - 1, maxInt}
}

// fitting answers whether the chapter has the kind come at op, worked out from a row of each operation: of a cut, of a failure, of a flip.
func fitting(kind, op int) bool {
	rows := map[int]string{1: "x.x", 2: "xx.", 3: "xx.", 4: "xx.", 5: "xx."}
	row, is := rows[op]
	return is && kind >= 1 && kind <= 3 && row[kind-1] == 'x'
}

// ops are the operations, those next to them, and those that are one of them in their lowest bits alone.
func ops() []int {
	return []int{1, 2, 3, 4, 5, 0, 6, 7, -1, -2, -5, 1<<32 + 1, 1<<32 + 2, 257, minInt, minInt + 1, maxInt}
}

// kept answers a copy of l with room behind its length, in which there is a fault that does not count.
func kept(l []api.Fault) []api.Fault {
	room := append(make([]api.Fault, 0, len(l)+2), l...)
	full := room[:len(l)+2]
	full[len(l)], full[len(l)+1] = spare, spare
	return room
}

// wantKept holds that l, made by kept, is as it was made, room and all.
func wantKept(t *testing.T, l, was []api.Fault) {
	t.Helper()
	if full := l[:len(was)+2]; !slices.Equal(l, was) || full[len(was)] != spare || full[len(was)+1] != spare {
		t.Errorf("the list given: %+v, not %+v", full, was)
	}
}

func wantMeets(t *testing.T, l []api.Fault, at, op int, want api.Fault, is bool) {
	t.Helper()
	given := kept(l)
	if f, ok := fault.Meets(given, at, op); f != want || ok != is {
		t.Errorf("Meets(%+v, %d, %d): %+v, %t, not %+v, %t", l, at, op, f, ok, want, is)
	}
	wantKept(t, given, l)
}

// wantFirst holds that Meets tells the first that fits, or none.
func wantFirst(t *testing.T, l []api.Fault, at, op int) {
	t.Helper()
	for _, f := range l {
		if f.At == at && fitting(f.Kind, op) {
			wantMeets(t, l, at, op, f, true)
			return
		}
	}
	wantMeets(t, l, at, op, api.Fault{}, false)
}

func wantFlipped(t *testing.T, page string, a int, want string) {
	t.Helper()
	if s := fault.Flipped(page, api.Fault{A: a}); s != want {
		t.Errorf("Flipped(%q, %d): %q, not %q", page, a, s, want)
	}
}

func wantCount(t *testing.T, l []api.Fault, kind, below, want int) {
	t.Helper()
	given := kept(l)
	if n := fault.Count(given, kind, below); n != want {
		t.Errorf("Count(%+v, %d, %d): %d, not %d", l, kind, below, n, want)
	}
	wantKept(t, given, l)
}

// wantWithout holds the answer, that it is new memory, and the list given.
func wantWithout(t *testing.T, l []api.Fault, kind int, want ...api.Fault) {
	t.Helper()
	given := kept(l)
	rest := fault.Without(given, kind)
	if !slices.Equal(rest, want) {
		t.Errorf("Without(%+v, %d): %+v, not %+v", l, kind, rest, want)
	}
	full := rest[:cap(rest)]
	for i := range full {
		full[i] = api.Fault{At: -9, Kind: -9, A: -9, B: -9}
	}
	wantKept(t, given, l)
	if again := fault.Without(given, kind); !slices.Equal(again, want) {
		t.Errorf("Without(%+v, %d), again: %+v, not %+v", l, kind, again, want)
	}
}

// wantAhead holds what is told to the end, twice, and broken off at each place.
func wantAhead(t *testing.T, l []api.Fault, want ...api.Fault) {
	t.Helper()
	given := kept(l)
	ahead := fault.Ahead(given)
	if ahead == nil {
		t.Fatalf("Ahead(%+v): nil", l)
	}
	for range 2 {
		if got := slices.Collect(ahead); !slices.Equal(got, want) {
			t.Errorf("Ahead(%+v): %+v, not %+v", l, got, want)
		}
	}
	for n := 1; n <= len(want); n++ {
		var got []api.Fault
		// Called by hand, so that a call behind the one that broke it off is seen.
		ahead(func(f api.Fault) bool {
			got = append(got, f)
			return len(got) < n
		})
		if !slices.Equal(got, want[:n]) {
			t.Errorf("Ahead(%+v), broken off after %d: %+v, not %+v", l, n, got, want[:n])
		}
	}
	if got := slices.Collect(ahead); !slices.Equal(got, want) {
		t.Errorf("Ahead(%+v), broken off, and taken again: %+v, not %+v", l, got, want)
	}
	wantKept(t, given, l)
}

// script answers a list of so many faults, another one of each seed, with few numbers, so that many have the same one.
func script(seed uint32, n int) []api.Fault {
	pick := func(of int) int {
		seed = seed*1664525 + 1013904223
		return int(seed>>16) % of
	}
	var l []api.Fault
	for i := range n {
		l = append(l, api.Fault{At: pick(6) - 2, Kind: pick(5), A: i, B: pick(9)})
	}
	return l
}

// The chapter's example.
func TestExample(t *testing.T) {
	cut, flip := api.Fault{At: 3, Kind: api.FCut}, api.Fault{At: 3, Kind: api.FFlip}
	wantMeets(t, []api.Fault{cut, flip}, 3, api.ORead, cut, true)
	wantMeets(t, []api.Fault{flip}, 3, api.ORead, flip, true)
}

// Promise 9.1: of no faults none is met, by any operation.
func TestMeetsNothing(t *testing.T) {
	for _, at := range numbers() {
		for _, op := range ops() {
			wantMeets(t, nil, at, op, api.Fault{}, false)
			wantMeets(t, []api.Fault{}, at, op, api.Fault{}, false)
			if f, ok := fault.Meets(nil, at, op); f != (api.Fault{}) || ok {
				t.Errorf("Meets(nil, %d, %d): %+v, %t", at, op, f, ok)
			}
		}
	}
}

// Promise 9.1: which kind fits which operation, told one by one.
func TestMeetsKnown(t *testing.T) {
	for _, c := range []struct {
		kind, op int
		is       bool
	}{
		{api.FCut, api.ORead, true}, {api.FCut, api.OProgram, true}, {api.FCut, api.OFoggy, true}, {api.FCut, api.OFine, true}, {api.FCut, api.OErase, true},
		{api.FFail, api.ORead, false}, {api.FFail, api.OProgram, true}, {api.FFail, api.OFoggy, true}, {api.FFail, api.OFine, true}, {api.FFail, api.OErase, true},
		{api.FFlip, api.ORead, true}, {api.FFlip, api.OProgram, false}, {api.FFlip, api.OFoggy, false}, {api.FFlip, api.OFine, false}, {api.FFlip, api.OErase, false},
		{0, api.ORead, false}, {0, api.OErase, false}, {4, api.ORead, false}, {4, api.OProgram, false}, {4, api.OErase, false},
		{api.FCut, 0, false}, {api.FFail, 0, false}, {api.FFlip, 0, false}, {api.FCut, 6, false}, {api.FFail, 6, false}, {api.FFlip, 6, false},
	} {
		f, want := api.Fault{At: 5, Kind: c.kind, A: 6, B: 7}, api.Fault{}
		if c.is {
			want = f
		}
		wantMeets(t, []api.Fault{f}, 5, c.op, want, c.is)
	}
}

// Promise 9.1: one fault of each kind, and of kinds that there are none of, with operations that are some, and that are none.
func TestMeetsKinds(t *testing.T) {
	for _, kind := range kinds() {
		for _, op := range ops() {
			wantFirst(t, []api.Fault{{At: 5, Kind: kind, A: minInt, B: maxInt}}, 5, op)
			wantFirst(t, []api.Fault{{Kind: kind}}, 0, op)
		}
	}
}

// Promise 9.1: a fault comes at the very number that it names, also below 0.
func TestMeetsNumber(t *testing.T) {
	for _, at := range numbers() {
		for _, other := range numbers() {
			for _, op := range []int{api.ORead, api.OProgram, api.OErase} {
				f := api.Fault{At: other, Kind: api.FCut, A: at}
				if other == at {
					wantMeets(t, []api.Fault{f}, at, op, f, true)
				} else {
					wantMeets(t, []api.Fault{f}, at, op, api.Fault{}, false)
				}
			}
		}
	}
}

// Promise 9.1: two faults of one number, of which the first, the second, both or none fits.
func TestMeetsTwo(t *testing.T) {
	for _, first := range kinds() {
		for _, second := range kinds() {
			for _, at := range []int{0, 3, -3} {
				for _, op := range ops() {
					wantFirst(t, []api.Fault{{At: at, Kind: first, A: 1}, {At: at, Kind: second, A: 2}}, at, op)
				}
			}
		}
	}
	flip, fail, cut := api.Fault{At: 3, Kind: api.FFlip}, api.Fault{At: 3, Kind: api.FFail}, api.Fault{At: 3, Kind: api.FCut}
	wantMeets(t, []api.Fault{flip, fail}, 3, api.OFine, fail, true)
	wantMeets(t, []api.Fault{fail, flip}, 3, api.OFine, fail, true)
	wantMeets(t, []api.Fault{fail, flip}, 3, api.ORead, flip, true)
	wantMeets(t, []api.Fault{flip, cut}, 3, api.ORead, flip, true)
	wantMeets(t, []api.Fault{flip, cut}, 3, api.OErase, cut, true)
	wantMeets(t, []api.Fault{fail, cut}, 3, api.OErase, fail, true)
	wantMeets(t, []api.Fault{cut, fail}, 3, api.OErase, cut, true)
}

// Promise 9.1: the first is that of the list, whatever the numbers ahead of it are, and what else is in it.
func TestMeetsMany(t *testing.T) {
	for seed := range uint32(200) {
		l := script(seed, int(seed)%20)
		for at := -3; at <= 4; at++ {
			for op := 0; op <= 6; op++ {
				wantFirst(t, l, at, op)
			}
		}
	}
}

// Promise 9.1: a page without a byte stays as it is.
func TestFlippedEmpty(t *testing.T) {
	for _, a := range append(numbers(), 7, 8, -8) {
		wantFlipped(t, "", a, "")
	}
}

// Promise 9.1: a page of one byte: each bit, those beyond the last one from the first on again, and those below 0.
func TestFlippedByte(t *testing.T) {
	for _, c := range []struct {
		a    int
		want string
	}{
		{0, "\x01"}, {1, "\x02"}, {6, "\x40"}, {7, "\x80"}, {8, "\x01"}, {9, "\x02"}, {15, "\x80"}, {16, "\x01"}, {8000, "\x01"}, {8007, "\x80"},
		{-1, "\x80"}, {-2, "\x40"}, {-7, "\x02"}, {-8, "\x01"}, {-9, "\x80"}, {-16, "\x01"}, {-8001, "\x80"},
		{maxInt, "\x80"}, {maxInt - 7, "\x01"}, {minInt, "\x01"}, {minInt + 7, "\x80"}, {1 << 32, "\x01"}, {1<<32 + 3, "\x08"},
	} {
		wantFlipped(t, "\x00", c.a, c.want)
		wantFlipped(t, "\xff", c.a, string([]byte{^c.want[0]}))
		wantFlipped(t, "\x5a", c.a, string([]byte{0x5a ^ c.want[0]}))
	}
}

// Promise 9.1: longer pages, of lengths that are a power of two, and that are none.
func TestFlipped(t *testing.T) {
	for _, n := range []int{2, 3, 5, 8, 9, 36, 99, 315} {
		for k := range 8 * n {
			b := []byte(strings.Repeat("\xa5", n))
			page := string(b)
			b[k>>3] ^= 1 << (k & 7)
			for _, times := range []int{0, 1, 2, 1000, -1, -2, -1000} {
				wantFlipped(t, page, k+times*8*n, string(b))
			}
			if page != strings.Repeat("\xa5", n) {
				t.Fatalf("the page given: %q", page)
			}
			wantFlipped(t, string(b), k, page)
		}
	}
	// Rests that no power of two has: of the greatest and the least number modulo 24 they are 7 and 16.
	wantFlipped(t, "\x00\x00\x00", maxInt, "\x80\x00\x00")
	wantFlipped(t, "\x00\x00\x00", minInt, "\x00\x00\x01")
	wantFlipped(t, "\x00\x00\x00", minInt+8, "\x01\x00\x00")
	wantFlipped(t, "\x00\x00\x00", -1, "\x00\x00\x80")
	wantFlipped(t, "\x00\x00\x00", 23, "\x00\x00\x80")
	wantFlipped(t, "\x00\x00\x00", 24, "\x01\x00\x00")
}

// Promise 9.1: A alone says which bit it is, whatever the fault is besides.
func TestFlippedByAAlone(t *testing.T) {
	for _, kind := range kinds() {
		for _, at := range numbers() {
			f := api.Fault{At: at, Kind: kind, A: 10, B: at}
			if s := fault.Flipped("\x00\x00\x00", f); s != "\x00\x04\x00" {
				t.Errorf("Flipped by %+v: %q", f, s)
			}
		}
	}
}

// Promise 9.1: a page of the chip that is flipped is put right, whichever bit it is.
func TestFlippedPage(t *testing.T) {
	tag := api.Tag{Kind: api.KData, Lba: 9, Seq: 8, Epoch: 7}
	page, _ := frame.Encode(tag, "12345678")
	for a := range 8 * len(page) {
		if p := frame.Decode(fault.Flipped(page, api.Fault{Kind: api.FFlip, A: a})); p.What != api.PFixed || p.Tag != tag || p.Data != "12345678" {
			t.Errorf("flipped at %d: %+v", a, p)
		}
	}
}

// Promise 9.2: numbers that count: from 0 on, below the one that is told.
func TestCount(t *testing.T) {
	cut := func(at int) api.Fault { return api.Fault{At: at, Kind: api.FCut} }
	l := []api.Fault{cut(0), cut(2), cut(1), cut(-1), cut(1), {At: 1, Kind: api.FFail}, cut(5), cut(minInt), {At: 0, Kind: api.FFlip}, {At: 2}, cut(maxInt), cut(maxInt - 1)}
	for _, c := range []struct{ kind, below, want int }{
		{api.FCut, 0, 0}, {api.FCut, 1, 1}, {api.FCut, 2, 3}, {api.FCut, 3, 4}, {api.FCut, 4, 4}, {api.FCut, 5, 4}, {api.FCut, 6, 5}, {api.FCut, 1 << 32, 5},
		{api.FCut, maxInt - 1, 5}, {api.FCut, maxInt, 6}, {api.FCut, -1, 0}, {api.FCut, -2, 0}, {api.FCut, minInt, 0}, {api.FCut, minInt + 1, 0},
		{api.FFail, 0, 0}, {api.FFail, 1, 0}, {api.FFail, 2, 1}, {api.FFail, maxInt, 1}, {api.FFail, -1, 0},
		{api.FFlip, 0, 0}, {api.FFlip, 1, 1}, {api.FFlip, maxInt, 1}, {api.FFlip, minInt, 0},
		{0, 2, 0}, {0, 3, 1}, {4, maxInt, 0}, {-1, maxInt, 0}, {1<<32 + 1, maxInt, 0},
	} {
		wantCount(t, l, c.kind, c.below, c.want)
	}
	for _, kind := range kinds() {
		for _, below := range numbers() {
			wantCount(t, nil, kind, below, 0)
			wantCount(t, []api.Fault{}, kind, below, 0)
		}
	}
}

// Promise 9.2: one fault of each kind and number, counted by each kind, below each number.
func TestCountOne(t *testing.T) {
	for _, at := range numbers() {
		for _, below := range numbers() {
			for _, kind := range kinds() {
				for _, other := range kinds() {
					want := 0
					if kind == other && at >= 0 && at < below {
						want = 1
					}
					wantCount(t, []api.Fault{{At: at, Kind: kind, A: 1, B: 2}}, other, below, want)
				}
			}
		}
	}
}

// Promise 9.2: those of other kinds stay, whole and in order, of a kind that none has, that some have, and that all have.
func TestWithout(t *testing.T) {
	a, b, c := api.Fault{At: 4, Kind: api.FCut, A: 1, B: 2}, api.Fault{At: 2, Kind: api.FFail, A: 3, B: 4}, api.Fault{At: -2, Kind: api.FFlip, A: 5, B: 6}
	d, e := api.Fault{At: 3, Kind: api.FCut, A: 7}, api.Fault{At: 1, Kind: 9, B: 8}
	l := []api.Fault{a, b, a, c, d, b, e}
	wantWithout(t, l, api.FCut, b, c, b, e)
	wantWithout(t, l, api.FFail, a, a, c, d, e)
	wantWithout(t, l, api.FFlip, a, b, a, d, b, e)
	wantWithout(t, l, 9, a, b, a, c, d, b)
	for _, kind := range kinds() {
		wantWithout(t, nil, kind)
		wantWithout(t, []api.Fault{}, kind)
		same := []api.Fault{{At: 2, Kind: kind}, {At: 1, Kind: kind, A: 1}, {At: 2, Kind: kind}}
		wantWithout(t, same, kind)
		for _, other := range kinds() {
			if other != kind {
				wantWithout(t, same, other, same...)
			}
		}
	}
	for _, kind := range []int{0, 4, -1, 1<<32 + 1, minInt, maxInt} {
		wantWithout(t, l, kind, l...)
	}
}

// Promise 9.2: what is answered is not changed with the list that was given.
func TestWithoutOwn(t *testing.T) {
	for _, kind := range []int{api.FCut, api.FFail, 4} {
		given := []api.Fault{{At: 1, Kind: api.FCut}, {At: 2, Kind: api.FFail}, {At: 3, Kind: api.FCut}}
		rest := fault.Without(given, kind)
		want := slices.Clone(rest)
		for i := range given {
			given[i] = spare
		}
		if !slices.Equal(rest, want) {
			t.Errorf("Without %d: %+v, since the list given was changed: %+v", kind, want, rest)
		}
	}
}

// Promise 9.2: faults that rise, that fall, of several of one number, and of none.
func TestAhead(t *testing.T) {
	f := func(at, a int) api.Fault { return api.Fault{At: at, Kind: 1 + a%3, A: a, B: -a} }
	wantAhead(t, nil)
	wantAhead(t, []api.Fault{})
	wantAhead(t, []api.Fault{f(7, 1)}, f(7, 1))
	wantAhead(t, []api.Fault{f(1, 1), f(2, 2), f(3, 3)}, f(1, 1), f(2, 2), f(3, 3))
	wantAhead(t, []api.Fault{f(3, 1), f(2, 2), f(1, 3)}, f(1, 3), f(2, 2), f(3, 1))
	wantAhead(t, []api.Fault{f(5, 3), f(5, 2), f(5, 1), f(5, 2)}, f(5, 3), f(5, 2), f(5, 1), f(5, 2))
	wantAhead(t, []api.Fault{f(5, 9), f(1, 8), f(5, 7), f(1, 6), f(5, 5), f(0, 4)}, f(0, 4), f(1, 8), f(1, 6), f(5, 9), f(5, 7), f(5, 5))
	wantAhead(t, []api.Fault{f(0, 1), f(-1, 2), f(1, 3), f(-2, 4)}, f(-2, 4), f(-1, 2), f(0, 1), f(1, 3))
	// Numbers so far apart that what lies between them wraps round.
	wantAhead(t, []api.Fault{f(maxInt, 1), f(minInt, 2), f(0, 3), f(-1, 4), f(minInt+1, 5), f(1<<32, 6)}, f(minInt, 2), f(minInt+1, 5), f(-1, 4), f(0, 3), f(1<<32, 6), f(maxInt, 1))
}

// Promise 9.2: many faults of few numbers, of all kinds: each number's in the list's order.
func TestAheadMany(t *testing.T) {
	for seed := range uint32(60) {
		l := script(seed, 5*int(seed))
		var want []api.Fault
		for at := -2; at < 4; at++ {
			for _, f := range l {
				if f.At == at {
					want = append(want, f)
				}
			}
		}
		wantAhead(t, l, want...)
	}
}

// Promise 9.2: broken off after none, one and all but one, by a range, and taken within itself.
func TestAheadBrokenOff(t *testing.T) {
	l := []api.Fault{{At: 4, Kind: 1}, {At: 2, Kind: 2}, {At: 3, Kind: 3}, {At: 2, Kind: 1}}
	want := []api.Fault{l[1], l[3], l[2], l[0]}
	ahead := fault.Ahead(l)
	for n := 1; n <= len(l); n++ {
		var got []api.Fault
		for f := range ahead {
			got = append(got, f)
			if inner := slices.Collect(ahead); !slices.Equal(inner, want) {
				t.Errorf("within its own, at %+v: %+v", f, inner)
			}
			if len(got) == n {
				break
			}
		}
		if !slices.Equal(got, want[:n]) {
			t.Errorf("the first %d: %+v", n, got)
		}
	}
	for f := range ahead {
		if f != want[0] {
			t.Errorf("the first one: %+v", f)
		}
		break
	}
}

// Promise 9.2: what is told is not changed with the list that was given, ahead of a range or within one.
func TestAheadOwn(t *testing.T) {
	l := []api.Fault{{At: 4, Kind: 1}, {At: 2, Kind: 2}, {At: 3, Kind: 3}}
	want := []api.Fault{l[1], l[2], l[0]}
	ahead := fault.Ahead(l)
	l[1] = spare
	if got := slices.Collect(ahead); !slices.Equal(got, want) {
		t.Errorf("since the list given was changed: %+v", got)
	}
	var got []api.Fault
	for f := range ahead {
		got = append(got, f)
		clear(l)
	}
	if !slices.Equal(got, want) {
		t.Errorf("while the list given was changed: %+v", got)
	}
}

// Promise 9.3: at each number one fault at most, of those that fit; without a kind the first of the others, and none of that kind.
func TestMeetsWithout(t *testing.T) {
	for seed := range uint32(100) {
		l := script(seed, int(seed)%25)
		for _, kind := range []int{0, 1, 2, 3, 4, 5} {
			var others []api.Fault
			for _, f := range l {
				if f.Kind != kind {
					others = append(others, f)
				}
			}
			wantWithout(t, l, kind, others...)
			rest := fault.Without(l, kind)
			for at := -3; at <= 4; at++ {
				for op := 0; op <= 6; op++ {
					if f, ok := fault.Meets(rest, at, op); ok && (f.Kind == kind || f.At != at || !slices.Contains(l, f)) {
						t.Errorf("without %d Meets(%+v, %d, %d): %+v", kind, rest, at, op, f)
					}
					wantFirst(t, rest, at, op)
				}
			}
			for _, below := range numbers() {
				wantCount(t, rest, kind, below, 0)
			}
		}
	}
}

// Promise 9.3: of a list told ahead the same faults are met, as far as those of one number go.
func TestMeetsAhead(t *testing.T) {
	for seed := range uint32(100) {
		l := script(seed, int(seed)%25)
		sorted := slices.Collect(fault.Ahead(l))
		for at := -3; at <= 4; at++ {
			for op := 0; op <= 6; op++ {
				f, ok := fault.Meets(l, at, op)
				wantMeets(t, sorted, at, op, f, ok)
			}
		}
	}
}
