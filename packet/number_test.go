package packet_test

import (
	"math"
	"math/rand"
	"testing"

	"mailcoach/api"
	"mailcoach/packet"
)

// shortIs: of a number, such ones being answered, Short answers this.
func shortIs(t *testing.T, number uint64, answered int64, want int, wantE api.Errno) {
	t.Helper()
	if n, e := packet.Short(number, answered); n != want || e != wantE {
		t.Errorf("Short(%d, %d): %d, %d; want %d, %d", number, answered, n, e, want, wantE)
	}
}

// longIs: of what is told, such numbers having come, Long answers this.
func longIs(t *testing.T, told uint64, n int, came int64, want uint64, wantE api.Errno) {
	t.Helper()
	if number, e := packet.Long(told, n, came); number != want || e != wantE {
		t.Errorf("Long(%d, %d, %d): %d, %d; want %d, %d", told, n, came, number, e, want, wantE)
	}
}

// P13.1: the chapter's examples.
func TestNumberExamples(t *testing.T) {
	shortIs(t, 11295746, 11266227, 2, api.OK)
	shortIs(t, 11331838, 11266227, 3, api.OK)
	shortIs(t, 5, -1, 1, api.OK)
	shortIs(t, 5, 5, 0, api.ErrArg)
	longIs(t, 39730, 2, 2821665002, 2821692210, api.OK)
}

// P13.1: a way of just 2^(8n - 1) takes n bytes, one more takes another byte; above 2^31 there is none. Wherever it ends.
func TestShortWays(t *testing.T) {
	for n := 1; n <= 4; n++ {
		most := uint64(1) << (8*n - 1)
		more, moreE := n+1, api.OK
		if n == 4 {
			more, moreE = 0, api.ErrLimit
		}
		for _, answered := range []int64{0, 1, 2, 127, 128, 255, 256, 1 << 31, 1<<32 - 1, 1 << 40, 1<<61 + 7, api.MaxNumber - 1<<32} {
			shortIs(t, uint64(answered)+most, answered, n, api.OK)
			shortIs(t, uint64(answered)+most-1, answered, n, api.OK)
			shortIs(t, uint64(answered)+most+1, answered, more, moreE)
		}
		shortIs(t, api.MaxNumber, int64(api.MaxNumber-most), n, api.OK)
		shortIs(t, api.MaxNumber, int64(api.MaxNumber-most)-1, more, moreE)
		for _, answered := range []int64{-1, -2, -127, -1 << 31, -1 << 62, math.MinInt64 + 1, math.MinInt64} {
			shortIs(t, most-1, answered, n, api.OK)
			shortIs(t, most-2, answered, n, api.OK)
			shortIs(t, most, answered, more, moreE)
		}
	}
	shortIs(t, api.MaxNumber, api.MaxNumber-1, 1, api.OK)
	shortIs(t, 1, 0, 1, api.OK)
}

// P13.1: none answered: the way is the number and 1, however far below 0 that is told.
func TestShortNoneAnswered(t *testing.T) {
	for _, answered := range []int64{-1, -2, -256, math.MinInt32, math.MinInt64} {
		shortIs(t, 0, answered, 1, api.OK)
		shortIs(t, 127, answered, 1, api.OK)
		shortIs(t, 128, answered, 2, api.OK)
		shortIs(t, 1<<31-1, answered, 4, api.OK)
		shortIs(t, 1<<31, answered, 0, api.ErrLimit)
		shortIs(t, 1<<32, answered, 0, api.ErrLimit)
		shortIs(t, api.MaxNumber, answered, 0, api.ErrLimit)
	}
}

// P13.1: a number above MaxNumber, or one that is not above what was answered: ErrArg, ahead of ErrLimit.
func TestShortRefused(t *testing.T) {
	for _, number := range []uint64{api.MaxNumber + 1, api.MaxNumber + 2, 1<<63 - 1, 1 << 63, 1<<63 + 1, math.MaxUint64 - 1, math.MaxUint64} {
		for _, answered := range []int64{math.MinInt64, -1, 0, 1, api.MaxNumber - 1, api.MaxNumber, api.MaxNumber + 1, math.MaxInt64} {
			shortIs(t, number, answered, 0, api.ErrArg)
		}
	}
	for _, number := range []uint64{0, 1, 5, 127, 128, 1 << 31, 1 << 32, 1 << 40, api.MaxNumber - 1, api.MaxNumber} {
		for _, more := range []uint64{0, 1, 2, 128, 1 << 31, 1<<31 + 1, 1 << 62} {
			shortIs(t, number, int64(number+more), 0, api.ErrArg)
		}
		shortIs(t, number, math.MaxInt64, 0, api.ErrArg)
	}
}

// edges: numbers at which something may turn, of up to 64 bits.
func edges() (l []uint64) {
	for bit := range 64 {
		for near := range uint64(3) {
			l = append(l, 1<<bit+near-1)
		}
	}
	return append(l, 0, 3<<61, math.MaxUint64-1, math.MaxUint64)
}

// P13.1: Short and Long at all pairs of edges, and at many numbers beside these, as the chapter's words have it.
func TestNumbersAgainstPlain(t *testing.T) {
	check := func(a, b uint64, n int) {
		t.Helper()
		n1, e1 := plainShort(a, int64(b))
		shortIs(t, a, int64(b), n1, e1)
		n2, e2 := plainLong(a, n, int64(b))
		longIs(t, a, n, int64(b), n2, e2)
	}
	for _, a := range edges() {
		for _, b := range edges() {
			for n := range 7 {
				check(a, b, n-1)
			}
		}
	}
	r := rand.New(rand.NewSource(1))
	for range 200000 {
		b := r.Uint64() >> r.Intn(64)
		check(b+r.Uint64()>>r.Intn(64), b, r.Intn(6))
		n := 1 + r.Intn(4)
		check(r.Uint64()>>(64-8*n), b, n)
	}
}

// P13.1: none came: the number is what is told, however many bytes tell it, up to the greatest.
func TestLongNoneCame(t *testing.T) {
	for n := 1; n <= 4; n++ {
		last := uint64(1)<<(8*n) - 1
		for _, came := range []int64{-1, -2, -300, math.MinInt32, math.MinInt64} {
			for _, told := range []uint64{0, 1, 127, 128, 129, 254, 255, last / 2, last/2 + 1, last/2 + 2, last - 1, last} {
				longIs(t, told, n, came, told, api.OK)
			}
			longIs(t, last+1, n, came, 0, api.ErrArg)
		}
	}
}

// P13.1: near 0 nothing is taken away: what is told is too far on, and stays.
func TestLongNearNothing(t *testing.T) {
	for n := 1; n <= 4; n++ {
		w := uint64(1) << (8 * n)
		for _, came := range []int64{0, 1, 5, int64(w/2) - 3} {
			longIs(t, w-1, n, came, w-1, api.OK)
			longIs(t, uint64(came)+1+w/2, n, came, uint64(came)+1+w/2, api.OK)
			longIs(t, uint64(came)+2+w/2, n, came, uint64(came)+2+w/2, api.OK)
		}
		longIs(t, w/2, n, int64(w)-1, w+w/2, api.OK)     // just half on: stays
		longIs(t, w/2+1, n, int64(w)-1, w/2+1, api.OK)   // more than half on: w less
		longIs(t, w-1, n, int64(w)-1, w-1, api.OK)       // likewise; the least that there is to take away from
		longIs(t, 0, n, int64(w/2)-1, w, api.OK)         // just half behind: w more
		longIs(t, 1, n, int64(w/2)-1, 1, api.OK)         // less than half behind: stays
		longIs(t, w-1, n, int64(2*w), w+w-1, api.OK)     // a window back
		longIs(t, 5, n, int64(3*w)-1, 3*w+5, api.OK)     // e begins a window
		longIs(t, 5, n, int64(3*w)-2, 3*w+5, api.OK)     // e ends one
		longIs(t, w-1, n, int64(w)-2, w-1, api.OK)       // just the awaited one
		longIs(t, w/2-1, n, int64(w)-2, w+w/2-1, api.OK) // half on across a window
		longIs(t, w/2, n, int64(w)-2, w/2, api.OK)       // half behind, less one
	}
}

// P13.1: near 2^62 nothing is put upon: what is told is too far behind, and stays; above MaxNumber there is none.
func TestLongNearTheEnd(t *testing.T) {
	const end = uint64(1) << 62
	for n := 1; n <= 4; n++ {
		w := uint64(1) << (8 * n)
		longIs(t, 0, n, api.MaxNumber-1, end-w, api.OK)
		longIs(t, w/2-1, n, api.MaxNumber-1, end-w/2-1, api.OK)
		longIs(t, w-1, n, api.MaxNumber-1, api.MaxNumber, api.OK)
		longIs(t, 0, n, int64(end-w/2-1), end-w, api.OK)
		longIs(t, 0, n, int64(end-w-w/2-1), end-w, api.OK)         // c is 2^62 less twice w: w more
		longIs(t, w-1, n, int64(end-w/2-2), api.MaxNumber, api.OK) // ahead, within half
		longIs(t, w-1, n, int64(end-w-1), end-w-1, api.OK)         // more than half on: w less
		longIs(t, w-1, n, api.MaxNumber, api.MaxNumber, api.OK)    // e is 2^62: w less
		longIs(t, w/2+1, n, api.MaxNumber, end-w/2+1, api.OK)
		for _, told := range []uint64{0, 1, w/2 - 1, w / 2} { // not far enough on to be w less
			longIs(t, told, n, api.MaxNumber, 0, api.ErrLimit)
		}
	}
}

// P13.1: what Long answers has what is told as its lowest bytes; and it is the one number that has, at most half of w on from the awaited one, or less than half behind.
func TestLongIsTheNearest(t *testing.T) {
	check := func(told uint64, n int, came int64) {
		t.Helper()
		w := int64(1) << (8 * n)
		awaited := max(came, -1) + 1
		number, e := packet.Long(told, n, came)
		if e == api.OK && number&uint64(w-1) != told {
			t.Errorf("Long(%d, %d, %d): %d tells another one", told, n, came, number)
		}
		nearest := awaited - w/2 + 1
		nearest += (int64(told) - nearest) & (w - 1)
		if nearest >= 0 && nearest <= api.MaxNumber && (e != api.OK || number != uint64(nearest)) {
			t.Errorf("Long(%d, %d, %d): %d, %d; want %d", told, n, came, number, e, nearest)
		}
	}
	for told := range uint64(256) {
		for near := range int64(800) {
			check(told, 1, near-1)
			check(told, 1, api.MaxNumber-near)
			check(told, 1, 1<<32+near)
		}
	}
	r := rand.New(rand.NewSource(2))
	for range 100000 {
		n := 1 + r.Intn(4)
		check(r.Uint64()>>(64-8*n), n, r.Int63()>>(1+r.Intn(62)))
		check(r.Uint64()>>(64-8*n), n, api.MaxNumber-r.Int63()>>(1+r.Intn(62)))
	}
}

// P13.1: n that is not 1 to 4, a number that n bytes can't tell, one above MaxNumber that came: ErrArg, ahead of ErrLimit.
func TestLongRefused(t *testing.T) {
	for _, n := range []int{math.MinInt, math.MinInt + 1, -8, -4, -1, 0, 5, 6, 7, 8, 9, 64, 256 + 1, 1<<32 + 1, math.MaxInt - 1, math.MaxInt} {
		for _, came := range []int64{math.MinInt64, -1, 0, 5, api.MaxNumber, api.MaxNumber + 1, math.MaxInt64} {
			for _, told := range []uint64{0, 1, 255, math.MaxUint64} {
				longIs(t, told, n, came, 0, api.ErrArg)
			}
		}
	}
	for n := 1; n <= 4; n++ {
		w := uint64(1) << (8 * n)
		for _, came := range []int64{math.MinInt64, -1, 0, 5, 1 << 40, api.MaxNumber} {
			for _, told := range []uint64{w, w + 1, w << 1, w << 8, 1 << 62, 1 << 63, 1<<63 + 1, math.MaxUint64} {
				longIs(t, told, n, came, 0, api.ErrArg)
			}
		}
		for _, came := range []int64{api.MaxNumber + 1, api.MaxNumber + 2, math.MaxInt64 - 1, math.MaxInt64} {
			for _, told := range []uint64{0, 1, w - 1, w} {
				longIs(t, told, n, came, 0, api.ErrArg)
			}
		}
	}
}

// P13.1: what Short says is enough: of so many lowest bytes, or more, the number is told back when any number from the answered one on came.
func TestShortIsEnough(t *testing.T) {
	check := func(number uint64, answered int64) {
		t.Helper()
		least, e := packet.Short(number, answered)
		if e != api.OK {
			t.Fatalf("Short(%d, %d): %d", number, answered, e)
		}
		last := int64(number) - 1
		for n := least; n <= 4; n++ {
			told := number & (1<<(8*n) - 1)
			for _, came := range []int64{answered, answered + 1, answered + (last-answered)/2, last - 1, last} {
				if came >= answered && came <= last {
					longIs(t, told, n, came, number, api.OK)
				}
			}
		}
	}
	for number := range uint64(1200) {
		for way := uint64(1); way <= number+1; way++ {
			check(number, int64(number-way))
		}
	}
	for n := 1; n <= 4; n++ {
		most := uint64(1) << (8*n - 1)
		for _, number := range []uint64{most - 1, most, 2*most - 1, 2 * most, 2*most + 1, 3*most - 1, 3 * most, 1<<40 - 1, 1 << 40, 1<<40 + most, api.MaxNumber - most, api.MaxNumber - 1, api.MaxNumber} {
			for _, way := range []uint64{1, 2, most/2 + 1, most - 1, most} {
				if way <= number+1 {
					check(number, int64(number-way))
				}
			}
		}
	}
}
