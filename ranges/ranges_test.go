package ranges_test

import (
	"math"
	"math/rand"
	"slices"
	"sync"
	"testing"

	"mailcoach/api"
	"mailcoach/ranges"
)

// bases: where windows of up to a thousand numbers begin: at 0, somewhere, and so that a window of that size ends with MaxNumber.
func bases(size int) []uint64 { return []uint64{0, 1 << 40, api.MaxNumber + 1 - uint64(size)} }

// set: the ranges of pairs of numbers.
func set(pairs ...uint64) (l []api.Range) {
	for i := 0; i < len(pairs); i += 2 {
		l = append(l, api.Range{From: pairs[i], To: pairs[i+1]})
	}
	return l
}

func one(from, to uint64) api.Range { return api.Range{From: from, To: to} }

// apart: so many ranges of size numbers each, with one number between two; the first one begins at from.
func apart(from uint64, many int, size uint64) (l []api.Range) {
	for i := range uint64(many) {
		l = append(l, one(from+i*(size+1), from+i*(size+1)+size-1))
	}
	return l
}

type call func([]api.Range, api.Range) ([]api.Range, api.Errno)

// meetOne: Meet, with a set of one range.
func meetOne(l []api.Range, r api.Range) ([]api.Range, api.Errno) {
	return ranges.Meet(l, []api.Range{r})
}

// wantAnswer: a call's answer is this list and this error; and what is answered without an error is a set.
func wantAnswer(t *testing.T, name string, got []api.Range, e api.Errno, want []api.Range, wantErr api.Errno) {
	t.Helper()
	if e != wantErr || !slices.Equal(got, want) {
		t.Errorf("%s: %v, %d; want %v, %d", name, got, e, want, wantErr)
	}
	if e == api.OK && !ranges.Check(got) {
		t.Errorf("%s: %v tells no set", name, got)
	}
}

// refused: a call's answer is this error, and nothing beside it.
func refused(t *testing.T, name string, got []api.Range, e, want api.Errno) {
	t.Helper()
	if e != want || len(got) != 0 {
		t.Errorf("%s: %v, %d; want none, %d", name, got, e, want)
	}
}

// P8.1 to P8.4: the chapter's examples.
func TestExamples(t *testing.T) {
	for i, c := range []struct {
		l    []api.Range
		want bool
	}{{nil, true}, {set(1, 3, 5, 5), true}, {set(1, 3, 4, 5), false}, {set(3, 1), false}, {set(5, 5, 1, 3), false}} {
		if ranges.Check(c.l) != c.want {
			t.Errorf("Check %d: want %v", i, c.want)
		}
	}
	for _, c := range []struct {
		name string
		do   call
		l    []api.Range
		r    api.Range
		want []api.Range
		e    api.Errno
	}{
		{"add between", ranges.Add, set(1, 3, 7, 9), one(4, 6), set(1, 9), api.OK},
		{"add apart", ranges.Add, set(1, 3, 7, 9), one(5, 5), set(1, 3, 5, 5, 7, 9), api.OK},
		{"add within", ranges.Add, set(1, 3), one(2, 2), set(1, 3), api.OK},
		{"add none", ranges.Add, nil, one(2, 1), nil, api.ErrArg},
		{"cut a hole", ranges.Cut, set(1, 9), one(4, 6), set(1, 3, 7, 9), api.OK},
		{"cut all", ranges.Cut, set(1, 9), one(0, 20), nil, api.OK},
		{"cut the last", ranges.Cut, set(1, 9), one(9, 9), set(1, 8), api.OK},
		{"cut nothing", ranges.Cut, set(1, 3), one(5, 6), set(1, 3), api.OK},
		{"meet", meetOne, set(1, 5, 8, 9), one(4, 8), set(4, 5, 8, 8), api.OK},
		{"add one more", ranges.Add, apart(0, 64, 1), one(1000, 1000), nil, api.ErrFull},
		{"cut one more", ranges.Cut, append(set(0, 200), apart(300, 63, 1)...), one(7, 7), nil, api.ErrFull},
	} {
		got, e := c.do(c.l, c.r)
		wantAnswer(t, c.name, got, e, c.want, c.e)
	}
	got, e := ranges.Meet(set(1, 5), nil)
	wantAnswer(t, "meet none", got, e, nil, api.OK)
	if ranges.Has(set(1, 3, 5, 5), 4) || !ranges.Has(set(1, 3, 5, 5), 5) {
		t.Error("Has")
	}
	for _, c := range []struct {
		l    []api.Range
		n    int
		want []api.Range
		e    api.Errno
	}{{set(1, 1, 3, 3, 5, 5), 2, set(3, 3, 5, 5), api.OK}, {set(1, 1), 0, nil, api.OK}, {set(1, 1), 65, nil, api.ErrArg}} {
		got, e := ranges.Keep(c.l, c.n)
		wantAnswer(t, "keep", got, e, c.want, c.e)
	}
}

// noSets: lists that tell no set, by why.
func noSets() map[string][]api.Range {
	return map[string][]api.Range{
		"From above To":                   set(3, 2),
		"From above To, behind another":   set(0, 0, 9, 8),
		"From above To, ahead of another": set(3, 2, 9, 9),
		"From far above To":               set(math.MaxUint64, 0),
		"To above MaxNumber":              set(0, api.MaxNumber+1),
		"both above MaxNumber":            set(api.MaxNumber+1, api.MaxNumber+1),
		"the greatest number":             set(0, math.MaxUint64),
		"behind the greatest number":      set(0, math.MaxUint64, 5, 6),
		"behind the greatest but one":     set(0, math.MaxUint64-1, 0, 0),
		"above MaxNumber, the last":       set(0, 1, 5, 1<<63),
		"touch":                           set(1, 3, 4, 5),
		"touch at 0":                      set(0, 0, 1, 1),
		"touch at MaxNumber":              set(1, api.MaxNumber-1, api.MaxNumber, api.MaxNumber),
		"meet in a number":                set(1, 3, 3, 5),
		"meet":                            set(1, 5, 3, 9),
		"one within another":              set(1, 9, 3, 5),
		"twice the same":                  set(1, 3, 1, 3),
		"not in order":                    set(5, 5, 1, 3),
		"not in order, the last two":      set(0, 0, 9, 9, 5, 5),
		"one too many":                    apart(0, 65, 1),
		"far too many":                    apart(0, 1000, 2),
	}
}

// sets: lists that tell one, the edges among them.
func sets() map[string][]api.Range {
	return map[string][]api.Range{
		"none":                       nil,
		"empty":                      {},
		"0":                          set(0, 0),
		"MaxNumber":                  set(api.MaxNumber, api.MaxNumber),
		"all numbers":                set(0, api.MaxNumber),
		"one number between":         set(1, 3, 5, 5),
		"one between, at the end":    set(0, api.MaxNumber-2, api.MaxNumber, api.MaxNumber),
		"all but 1":                  set(0, 0, 2, api.MaxNumber),
		"the two outermost":          set(0, 0, api.MaxNumber, api.MaxNumber),
		"many between":               set(7, 9, 1000, 1<<61),
		"just MaxRanges":             apart(0, 64, 1),
		"just MaxRanges, to the end": apart(api.MaxNumber-64*3+2, 64, 2),
	}
}

// P8.1: sets and what is none, the edges among them.
func TestCheck(t *testing.T) {
	for name, l := range sets() {
		if !ranges.Check(l) {
			t.Errorf("%s: no set", name)
		}
	}
	for name, l := range noSets() {
		if ranges.Check(l) {
			t.Errorf("%s: a set", name)
		}
	}
	if l := sets()["just MaxRanges, to the end"]; l[63].To != api.MaxNumber {
		t.Errorf("it ends with %v", l[63])
	}
}

// P8.1: all lists of up to three ranges with few numbers, held against the chapter's words.
func TestCheckOfAllShortLists(t *testing.T) {
	var some []api.Range
	for _, from := range []uint64{0, 1, 2, 3, 4, 5, api.MaxNumber + 1} {
		for _, to := range []uint64{0, 1, 2, 3, 4, 5, api.MaxNumber + 1} {
			some = append(some, one(from, to))
		}
	}
	short := func(l ...api.Range) {
		if ranges.Check(l) != plainCheck(l) {
			t.Errorf("%v: %v", l, ranges.Check(l))
		}
	}
	for _, a := range some {
		short(a)
		for _, b := range some {
			short(a, b)
			if !plainCheck([]api.Range{a, b}) && a.From > 1 {
				continue // to save time: a third one can't mend it
			}
			for _, c := range some {
				short(a, b, c)
			}
		}
	}
}

// P8.2, P8.5: all sets of a few numbers with all ranges of them, and with each other, at 0, somewhere, and at MaxNumber.
func TestAllSmallSets(t *testing.T) {
	const size = 7
	for _, base := range bases(size) {
		for bits := range 1 << size {
			w := bitsWindow(base, bits, size)
			for from := range size {
				for to := from; to < size; to++ {
					checkOne(t, w, from, to)
				}
			}
			for bits := range 1 << size {
				checkMeet(t, w, bitsWindow(base, bits, size))
			}
		}
	}
}

// checkOne: Add, Cut and Meet of a window's set and the range of its places from to to, and again.
func checkOne(t *testing.T, w window, from, to int) {
	t.Helper()
	v := w.only(from, to)
	r := one(w.base+uint64(from), w.base+uint64(to))
	for _, c := range []struct {
		name string
		do   call
		rule func(a, b bool) bool
	}{{"Add", ranges.Add, either}, {"Cut", ranges.Cut, without}, {"Meet", meetOne, both}} {
		want, wantErr := plainAnswer(w.of(v, c.rule))
		got, e := c.do(w.list(), r)
		wantAnswer(t, c.name, got, e, want, wantErr)
		if e != api.OK {
			continue
		}
		again, e := c.do(got, r)
		wantAnswer(t, c.name+" again", again, e, want, api.OK)
	}
}

// checkMeet: Meet of two windows' sets, from both sides, and of each with itself.
func checkMeet(t *testing.T, w, v window) {
	t.Helper()
	want, wantErr := plainAnswer(w.of(v, both))
	got, e := ranges.Meet(w.list(), v.list())
	wantAnswer(t, "Meet", got, e, want, wantErr)
	got, e = ranges.Meet(v.list(), w.list())
	wantAnswer(t, "Meet from the other side", got, e, want, wantErr)
	got, e = ranges.Meet(v.list(), v.list())
	wantAnswer(t, "Meet with itself", got, e, v.list(), api.OK)
}

// P8.2, P8.5: sets of many ranges, some of whose answers have too many; Has of each number in the answer.
func TestSomeGreatSets(t *testing.T) {
	const size = 400
	r := rand.New(rand.NewSource(8))
	full := 0
	for range 600 {
		base := bases(size)[r.Intn(3)]
		w, v := someWindow(r, base, size, 1+r.Intn(8), 1+r.Intn(4)), someWindow(r, base, size, 1+r.Intn(8), 1+r.Intn(4))
		from := r.Intn(size)
		checkOne(t, w, from, min(size-1, from+r.Intn(1+r.Intn(40))))
		checkMeet(t, w, v)
		got, e := ranges.Meet(w.list(), v.list())
		if e == api.ErrFull {
			full++
			continue
		}
		for i := range w.has {
			if n := base + uint64(i); ranges.Has(got, n) != (w.has[i] && v.has[i]) {
				t.Fatalf("%d is in %v: %v", n, got, ranges.Has(got, n))
			}
		}
	}
	if full == 0 {
		t.Error("none of the answers had too many ranges")
	}
}

// P8.2: the edges of Add: no ranges, numbers at both ends of all, ranges that touch afterwards on one side and on both, one number left between.
func TestAdd(t *testing.T) {
	const most = api.MaxNumber
	for _, c := range []struct {
		name string
		l    []api.Range
		r    api.Range
		want []api.Range
	}{
		{"to none", nil, one(5, 9), set(5, 9)},
		{"0 to none", nil, one(0, 0), set(0, 0)},
		{"MaxNumber to none", nil, one(most, most), set(most, most)},
		{"all to none", nil, one(0, most), set(0, most)},
		{"all to all", set(0, most), one(0, most), set(0, most)},
		{"all to some", set(0, 0, 5, 9, most, most), one(0, most), set(0, most)},
		{"0 ahead, touching", set(1, 3), one(0, 0), set(0, 3)},
		{"0 ahead, apart", set(2, 3), one(0, 0), set(0, 0, 2, 3)},
		{"MaxNumber behind, touching", set(1, most-1), one(most, most), set(1, most)},
		{"MaxNumber behind, apart", set(1, most-2), one(most, most), set(1, most-2, most, most)},
		{"touching below", set(1, 3, 9, 9), one(4, 5), set(1, 5, 9, 9)},
		{"touching above", set(1, 3, 9, 9), one(7, 8), set(1, 3, 7, 9)},
		{"touching both", set(1, 3, 5, 9), one(4, 4), set(1, 9)},
		{"one number left on both sides", set(1, 3, 7, 9), one(5, 5), set(1, 3, 5, 5, 7, 9)},
		{"the same", set(1, 3, 7, 9), one(7, 9), set(1, 3, 7, 9)},
		{"over several", set(1, 3, 5, 5, 7, 9, 20, 21), one(3, 8), set(1, 9, 20, 21)},
		{"over the ends", set(4, 5), one(3, 6), set(3, 6)},
		{"one that begins as one of them", set(4, 5), one(4, 8), set(4, 8)},
		{"one that ends as one of them", set(4, 5), one(1, 5), set(1, 5)},
	} {
		got, e := ranges.Add(c.l, c.r)
		wantAnswer(t, c.name, got, e, c.want, api.OK)
	}
}

// P8.2: the edges of Cut: what leaves nothing, both ends, what meets nothing, numbers at both ends of all.
func TestCut(t *testing.T) {
	const most = api.MaxNumber
	for _, c := range []struct {
		name string
		l    []api.Range
		r    api.Range
		want []api.Range
	}{
		{"of none", nil, one(5, 9), nil},
		{"the only number", set(0, 0), one(0, 0), nil},
		{"MaxNumber alone", set(most, most), one(most, most), nil},
		{"all of all", set(0, most), one(0, most), nil},
		{"all of some", set(0, 0, 5, 9, most, most), one(0, most), nil},
		{"just it", set(4, 6), one(4, 6), nil},
		{"0 of all", set(0, most), one(0, 0), set(1, most)},
		{"MaxNumber of all", set(0, most), one(most, most), set(0, most-1)},
		{"all but both ends", set(0, most), one(1, most-1), set(0, 0, most, most)},
		{"both ends left", set(1, 3), one(2, 2), set(1, 1, 3, 3)},
		{"ahead", set(5, 9), one(0, 4), set(5, 9)},
		{"behind", set(5, 9), one(10, most), set(5, 9)},
		{"between", set(5, 9, 11, 12), one(10, 10), set(5, 9, 11, 12)},
		{"the first number", set(5, 9), one(5, 5), set(6, 9)},
		{"the last number", set(5, 9), one(9, 9), set(5, 8)},
		{"over several", set(1, 3, 5, 5, 7, 9, 20, 21), one(3, 8), set(1, 2, 9, 9, 20, 21)},
		{"one of several", set(1, 3, 5, 5, 7, 9), one(4, 6), set(1, 3, 7, 9)},
	} {
		got, e := ranges.Cut(c.l, c.r)
		wantAnswer(t, c.name, got, e, c.want, api.OK)
	}
}

// P8.2: the edges of Meet; each from both sides.
func TestMeet(t *testing.T) {
	const most = api.MaxNumber
	for _, c := range []struct {
		name       string
		a, b, want []api.Range
	}{
		{"none and none", nil, nil, nil},
		{"none and all", nil, set(0, most), nil},
		{"all and all", set(0, most), set(0, most), set(0, most)},
		{"0", set(0, 0), set(0, most), set(0, 0)},
		{"MaxNumber", set(most, most), set(0, most), set(most, most)},
		{"0 and MaxNumber", set(0, 0), set(most, most), nil},
		{"touching", set(1, 3), set(4, 6), nil},
		{"one number", set(1, 3), set(3, 6), set(3, 3)},
		{"one within the other", set(1, 9), set(3, 6), set(3, 6)},
		{"in each other's gaps", set(1, 1, 3, 3, 5, 5), set(2, 2, 4, 4, 6, 6), nil},
		{"one over several", set(1, 9), set(0, 1, 3, 3, 5, 5, 9, 12), set(1, 1, 3, 3, 5, 5, 9, 9)},
		{"by turns", set(1, 4, 6, 10), set(3, 7, 9, 12), set(3, 4, 6, 7, 9, 10)},
		{"just MaxRanges and all", apart(9, 64, 1), set(0, most), apart(9, 64, 1)},
	} {
		got, e := ranges.Meet(c.a, c.b)
		wantAnswer(t, c.name, got, e, c.want, api.OK)
		got, e = ranges.Meet(c.b, c.a)
		wantAnswer(t, c.name+", other side", got, e, c.want, api.OK)
	}
	for name, l := range sets() {
		got, e := ranges.Meet(l, l)
		wantAnswer(t, name+" with itself", got, e, l, api.OK)
	}
}

// P8.2: an answer of just MaxRanges ranges is one, of more is ErrFull; a full set still takes and gives what makes no more of it.
func TestFull(t *testing.T) {
	full := apart(10, 64, 3) // 10-12 14-16 .. 262-264
	for _, c := range []struct {
		name string
		do   call
		l    []api.Range
		r    api.Range
		many int
	}{
		{"add the 64th behind", ranges.Add, full[:63], one(1000, 1000), 64},
		{"add the 64th ahead", ranges.Add, full[1:], one(0, 8), 64},
		{"add behind", ranges.Add, full, one(266, 266), 0},
		{"add ahead", ranges.Add, full, one(0, 8), 0},
		{"add between", ranges.Add, append(apart(0, 63, 1), one(1000, 1000)), one(500, 600), 0},
		{"add MaxNumber", ranges.Add, full, one(api.MaxNumber, api.MaxNumber), 0},
		{"add within", ranges.Add, full, one(14, 16), 64},
		{"add, touching behind", ranges.Add, full, one(265, 300), 64},
		{"add, touching ahead", ranges.Add, full, one(0, 9), 64},
		{"add a number between two", ranges.Add, full, one(13, 13), 63},
		{"add over all", ranges.Add, full, one(0, 1000), 1},
		{"cut the 64th", ranges.Cut, full[:63], one(11, 11), 64},
		{"cut the first", ranges.Cut, full, one(11, 11), 0},
		{"cut the last", ranges.Cut, full, one(263, 263), 0},
		{"cut an end", ranges.Cut, full, one(264, 264), 64},
		{"cut nothing", ranges.Cut, full, one(13, 13), 64},
		{"cut one of them", ranges.Cut, full, one(14, 16), 63},
		{"cut over two", ranges.Cut, full, one(11, 15), 64},
		{"cut over three", ranges.Cut, full, one(11, 19), 63},
	} {
		got, e := c.do(c.l, c.r)
		if c.many == 0 {
			refused(t, c.name, got, e, api.ErrFull)
		} else if e != api.OK || len(got) != c.many || !ranges.Check(got) {
			t.Errorf("%s: %d ranges, %d; want %d", c.name, len(got), e, c.many)
		}
	}
}

// P8.2: Meet of m ranges with a set that has a hole in each of the first k of them has m + k ranges: up to 127 of two sets, of which MaxRanges may be.
func TestFullMeet(t *testing.T) {
	for m := range 65 {
		l := apart(10, m, 3)
		holes := set(0, api.MaxNumber)
		var want []api.Range
		for k := range min(m, 63) + 1 {
			if k > 0 {
				n := l[k-1].From + 1
				holes = append(holes[:k-1], one(holes[k-1].From, n-1), one(n+1, api.MaxNumber))
				want = append(want[:2*k-2], one(n-1, n-1), one(n+1, n+1))
			}
			want, wantErr := append(slices.Clone(want), l[k:]...), api.OK
			if m+k > 64 {
				want, wantErr = nil, api.ErrFull
			}
			got, e := ranges.Meet(l, holes)
			wantAnswer(t, "Meet", got, e, want, wantErr)
			got, e = ranges.Meet(holes, l)
			wantAnswer(t, "Meet from the other side", got, e, want, wantErr)
		}
	}
}

// P8.2: a list that tells no set and a range that may not be are ErrArg, also where the answer would have too many ranges, or would be plain.
func TestWrongInputs(t *testing.T) {
	noRanges := []api.Range{one(2, 1), one(0, api.MaxNumber+1), one(api.MaxNumber+1, api.MaxNumber+1), one(1, 0), one(math.MaxUint64, 0), one(0, math.MaxUint64), one(math.MaxUint64, math.MaxUint64), one(api.MaxNumber+1, api.MaxNumber)}
	calls := map[string]call{"Add": ranges.Add, "Cut": ranges.Cut, "Meet": meetOne}
	for name, do := range calls {
		for _, r := range noRanges {
			for _, l := range sets() {
				got, e := do(l, r)
				refused(t, name, got, e, api.ErrArg)
			}
		}
		for why, l := range noSets() {
			for _, r := range append(noRanges, one(0, api.MaxNumber), one(4, 4), one(3000, 3000)) {
				got, e := do(l, r)
				refused(t, name+", "+why, got, e, api.ErrArg)
			}
		}
	}
	for why, l := range noSets() {
		for _, b := range sets() {
			got, e := ranges.Meet(b, l)
			refused(t, "Meet with "+why, got, e, api.ErrArg)
			got, e = ranges.Meet(l, b)
			refused(t, "Meet of "+why, got, e, api.ErrArg)
		}
		got, e := ranges.Meet(l, l)
		refused(t, "Meet, both "+why, got, e, api.ErrArg)
	}
}

// P8.2, R2: where the answer would have too many ranges and an argument may not be, it is ErrArg.
func TestWrongAndFull(t *testing.T) {
	full := apart(10, 64, 3)
	for name, c := range map[string]struct {
		do call
		l  []api.Range
		r  api.Range
	}{
		"Add, To above MaxNumber": {ranges.Add, full, one(api.MaxNumber, api.MaxNumber+1)},
		"Add, the last is wrong":  {ranges.Add, append(slices.Clone(full[:63]), one(5000, 4999)), one(0, 1)},
		"Add, 65 ranges":          {ranges.Add, apart(10, 65, 3), one(0, 1)},
		"Cut, the last is wrong":  {ranges.Cut, append(slices.Clone(full[:63]), one(5000, api.MaxNumber+1)), one(11, 11)},
		"Cut, 65 ranges":          {ranges.Cut, apart(10, 65, 3), one(11, 11)},
		"Cut, 65 ranges to 64":    {ranges.Cut, apart(10, 65, 3), one(0, 12)},
		"Add, 65 ranges to 1":     {ranges.Add, apart(10, 65, 3), one(0, 1000)},
		"Meet, 65 ranges to 1":    {meetOne, apart(10, 65, 3), one(10, 12)},
	} {
		got, e := c.do(c.l, c.r)
		refused(t, name, got, e, api.ErrArg)
	}
	holes := apart(12, 64, 3) // each of them meets two
	got, e := ranges.Meet(full, holes)
	refused(t, "Meet, full", got, e, api.ErrFull)
	holes[63].To = holes[63].From - 1
	got, e = ranges.Meet(full, holes)
	refused(t, "Meet, full and wrong", got, e, api.ErrArg)
	got, e = ranges.Meet(holes, full)
	refused(t, "Meet, wrong and full", got, e, api.ErrArg)
}

// P8.3: of sets, and of any other list: in no order, meeting, From above To, above MaxNumber, of any length.
func TestHas(t *testing.T) {
	const most, greatest = api.MaxNumber, uint64(math.MaxUint64)
	for _, c := range []struct {
		l       []api.Range
		in, out []uint64
	}{
		{nil, nil, []uint64{0, 1, most, greatest}},
		{set(0, 0), []uint64{0}, []uint64{1, 2, most, greatest}},
		{set(most, most), []uint64{most}, []uint64{0, most - 1, most + 1, greatest}},
		{set(0, most), []uint64{0, 1, most}, []uint64{most + 1, greatest}},
		{set(1, 3, 5, 5), []uint64{1, 2, 3, 5}, []uint64{0, 4, 6}},
		{set(5, 5, 1, 3), []uint64{1, 2, 3, 5}, []uint64{0, 4, 6}},
		{set(1, 9, 2, 3), []uint64{1, 2, 3, 4, 9}, []uint64{0, 10}},
		{set(1, 3, 4, 5), []uint64{1, 3, 4, 5}, []uint64{0, 6}},
		{set(3, 1), nil, []uint64{0, 1, 2, 3, 4}},
		{set(3, 1, 2, 2), []uint64{2}, []uint64{0, 1, 3}},
		{set(2, 2, 3, 1), []uint64{2}, []uint64{0, 1, 3}},
		{set(greatest, 0), nil, []uint64{0, 1, most, greatest - 1, greatest}},
		{set(0, greatest), []uint64{0, 1, most, most + 1, greatest}, nil},
		{set(most+1, most+3), []uint64{most + 1, most + 2, most + 3}, []uint64{most, most + 4}},
		{set(greatest, greatest), []uint64{greatest}, []uint64{0, greatest - 1}},
		{apart(0, 1000, 1), []uint64{0, 2, 128, 1998}, []uint64{1, 127, 1999, 2000}},
		{slices.Repeat(set(7, 6, 1, 1, 1, 1), 500), []uint64{1}, []uint64{0, 2, 6, 7}},
	} {
		for _, n := range c.in {
			if !ranges.Has(c.l, n) {
				t.Errorf("%d is not in %v", n, c.l)
			}
		}
		for _, n := range c.out {
			if ranges.Has(c.l, n) {
				t.Errorf("%d is in %v", n, c.l)
			}
		}
	}
}

// P8.4: the last n ranges, for each n that may be, also where there are fewer; ErrArg for each other n, and of what is no set.
func TestKeep(t *testing.T) {
	for name, l := range sets() {
		for n := range 65 {
			want := l
			for len(want) > n {
				want = want[1:]
			}
			got, e := ranges.Keep(l, n)
			wantAnswer(t, name, got, e, want, api.OK)
		}
		for _, n := range []int{-1, -64, math.MinInt, 65, 128, math.MaxInt} {
			got, e := ranges.Keep(l, n)
			refused(t, name, got, e, api.ErrArg)
		}
	}
	for why, l := range noSets() {
		for _, n := range []int{-1, 0, 1, 63, 64, 65} {
			got, e := ranges.Keep(l, n)
			refused(t, why, got, e, api.ErrArg)
		}
	}
}

// P8.5: numbers around the ends of sets and of what is added, cut and met, over all of the numbers that may be.
func TestNumbersAreInJustIfTheyShould(t *testing.T) {
	r := rand.New(rand.NewSource(5))
	for range 400 {
		a, b := someSet(r, 1+r.Intn(20)), someSet(r, 1+r.Intn(20))
		x := b[r.Intn(len(b))]
		for name, c := range map[string]struct {
			do   func() ([]api.Range, api.Errno)
			b    []api.Range
			rule func(a, b bool) bool
		}{
			"Add":  {func() ([]api.Range, api.Errno) { return ranges.Add(a, x) }, []api.Range{x}, either},
			"Cut":  {func() ([]api.Range, api.Errno) { return ranges.Cut(a, x) }, []api.Range{x}, without},
			"Meet": {func() ([]api.Range, api.Errno) { return ranges.Meet(a, b) }, b, both},
		} {
			got, e := c.do()
			if e != api.OK || !ranges.Check(got) {
				t.Fatalf("%s: %v, %d", name, got, e)
			}
			for _, n := range around(a, c.b, got) {
				if ranges.Has(got, n) != c.rule(ranges.Has(a, n), ranges.Has(c.b, n)) {
					t.Fatalf("%s: %d in %v: %v; of %v and %v", name, n, got, ranges.Has(got, n), a, c.b)
				}
			}
		}
	}
}

// someSet: a set of so many ranges with numbers from all that may be.
func someSet(r *rand.Rand, many int) (l []api.Range) {
	var ends []uint64
	for range 2 * many {
		ends = append(ends, uint64(r.Int63n(api.MaxNumber)))
	}
	slices.Sort(ends)
	return set(ends...)
}

// around: the numbers at which ranges begin and end, with those beside them.
func around(lists ...[]api.Range) (l []uint64) {
	for _, x := range slices.Concat(lists...) {
		for _, n := range []uint64{x.From, x.To} {
			l = append(l, n-1, n, n+1)
		}
	}
	return l
}

// every: each call with a list, of which every one that gives a list answers one.
func every(l []api.Range, r api.Range) [][]api.Range {
	ranges.Check(l)
	ranges.Has(l, r.From)
	added, _ := ranges.Add(l, r)
	cut, _ := ranges.Cut(l, r)
	met, _ := ranges.Meet(l, l)
	few, _ := ranges.Meet(l, []api.Range{r})
	kept, _ := ranges.Keep(l, 3)
	whole, _ := ranges.Keep(l, 64)
	return [][]api.Range{added, cut, met, few, kept, whole}
}

// fill: writes over a list, its spare room too.
func fill(l []api.Range) {
	for i := range l[:cap(l)] {
		l[:cap(l)][i] = one(77, 66)
	}
}

// R4: what is handed in, its spare room too, stays as it was, whether it tells a set or not.
func TestHandedInStays(t *testing.T) {
	for _, lists := range []map[string][]api.Range{sets(), noSets()} {
		for name, l := range lists {
			room := append(make([]api.Range, 0, len(l)+9), l...)
			fill(room[len(room):])
			before := slices.Clone(room[:cap(room)])
			for _, r := range []api.Range{one(0, 0), one(2, 4), one(api.MaxNumber, api.MaxNumber), one(0, api.MaxNumber), one(2, 1)} {
				for _, answer := range every(room, r) {
					fill(answer)
				}
				b := append(make([]api.Range, 0, 4), r)
				ranges.Meet(room, b)
				ranges.Meet(b, room)
				if !slices.Equal(room[:cap(room)], before) || b[0] != r || b[:4][1] != (api.Range{}) {
					t.Fatalf("%s is %v; was %v", name, room[:cap(room)], before)
				}
			}
		}
	}
}

// R4: each answer is memory of its own: writing over one leaves the others, and writing over what was handed in leaves all.
func TestAnswersAreNewMemory(t *testing.T) {
	for name, l := range sets() {
		for _, r := range []api.Range{one(0, 0), one(2, 4), one(0, api.MaxNumber)} {
			want := every(slices.Clone(l), r)
			handed := slices.Clone(l)
			first, second := every(handed, r), every(handed, r)
			fill(handed)
			for i := range first {
				fill(first[i])
				if !slices.Equal(second[i], want[i]) {
					t.Errorf("%s: answer %d is %v; want %v", name, i, second[i], want[i])
				}
				for j := i + 1; j < len(first); j++ {
					if !slices.Equal(first[j], want[j]) {
						t.Errorf("%s: answer %d is %v; want %v", name, j, first[j], want[j])
					}
				}
			}
		}
	}
}

// R5: what is answered hangs on the arguments alone: many at a time, after refusals, twice.
func TestHangsOnArgumentsAlone(t *testing.T) {
	var work sync.WaitGroup
	for worker := range 8 {
		work.Go(func() {
			r := rand.New(rand.NewSource(int64(worker % 2)))
			for range 150 {
				w := someWindow(r, 1000, 100, 5, 5)
				from := r.Intn(100)
				for range 2 {
					checkOne(t, w, from, min(99, from+r.Intn(9)))
					got, e := ranges.Add(w.list(), one(3, 2))
					refused(t, "Add", got, e, api.ErrArg)
				}
				checkMeet(t, w, someWindow(r, 1000, 100, 5, 5))
			}
		})
	}
	work.Wait()
}
