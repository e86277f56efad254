package ledger_test

import (
	"testing"

	"mailcoach/api"
)

// P15.3, P15.5: the first time that is measured, whole and cut; a delay makes no difference there.
func TestFirstMeasured(t *testing.T) {
	for _, c := range []struct{ sent, now, delay, latest, vary, wait uint64 }{
		{0, 0, 0, 0, 0, 26},
		{0, 1, 0, 1, 0, 27},
		{5, 7, 0, 2, 1, 31},
		{5, 8, 3, 3, 1, 32},
		{10, 61, 7, 51, 25, 176},
		{0, 100, late, 100, 50, 325},
		{0, late, 0, late, late / 2, late + 4*(late/2) + 25},
		{late, late, late, 0, 0, 26},
	} {
		l := row(t, c.sent)
		answers(t, l, set(0, 0), c.delay, c.now, list(0), nil)
		times(t, l, c.latest, c.latest, c.vary, c.latest)
		if l.Wait() != c.wait {
			t.Errorf("%v: wait %d", c, l.Wait())
		}
	}
}

// P15.3: a time of 0 that was measured is one: the next is measured as a later one.
func TestMeasuredNothing(t *testing.T) {
	l := row(t, 0, 0)
	answers(t, l, set(0, 0), 0, 0, list(0), nil)
	times(t, l, 0, 0, 0, 0)
	answers(t, l, set(1, 1), 0, 80, list(1), nil)
	times(t, l, 80, 10, 20, 0)
}

// P15.3: later times, above and below what was smooth, with a delay that is taken off and one that is not; the divisions are cut.
func TestLaterMeasured(t *testing.T) {
	for _, c := range []struct{ latest, delay, smooth, vary, least uint64 }{
		{100, 0, 100, 37, 100},  // 150/4
		{100, 1, 100, 37, 100},  // less than Least and delay: not taken off
		{101, 1, 100, 37, 100},  // just as much: a is 100
		{101, 0, 100, 37, 100},  // 151/4, 801/8
		{101, 2, 100, 37, 100},  // not taken off
		{107, 0, 100, 39, 100},  // 157/4, 807/8
		{108, 0, 101, 39, 100},  // 158/4, 808/8
		{180, 0, 110, 57, 100},  // 230/4, 880/8
		{180, 79, 100, 37, 100}, // a is 101
		{180, 80, 100, 37, 100}, // a is 100
		{180, 81, 110, 57, 100}, // not taken off
		{180, late, 110, 57, 100},
		{60, 0, 95, 47, 60},  // Least is 60 then: 190/4, 760/8
		{60, 1, 95, 47, 60},  // not taken off: it is held against the new Least
		{60, 40, 95, 47, 60}, // likewise
		{0, 0, 87, 62, 0},    // 250/4, 700/8
		{0, 1, 87, 62, 0},
		{late - 1000, 0, (700 + late - 1000) / 8, (150 + late - 1100) / 4, 100},
	} {
		l := row(t, 0)
		answers(t, l, set(0, 0), 0, 100, list(0), nil)
		send(t, l, 1, 1000, 1000, true, api.OK)
		answers(t, l, set(1, 1), c.delay, 1000+c.latest, list(1), nil)
		times(t, l, c.latest, c.smooth, c.vary, c.least)
		if want := c.smooth + 4*c.vary + 25; l.Wait() != want {
			t.Errorf("%v: wait %d; want %d", c, l.Wait(), want)
		}
	}
}

// P15.3: several measured one behind the other.
func TestMeasuredOnAndOn(t *testing.T) {
	l := row(t, 0, 10, 20, 30, 40)
	answers(t, l, set(0, 1), 0, 60, list(0, 1), nil)
	times(t, l, 50, 50, 25, 50)
	answers(t, l, set(0, 2), 20, 110, list(2), nil)
	times(t, l, 90, 52, 23, 50)
	answers(t, l, set(4, 4), 0, 112, list(4), list(3))
	times(t, l, 72, 54, 22, 50)
	bytesOf(t, l, 8000, 0)
	never(t, l)
	send(t, l, 5, 500, 200, true, api.OK)
	answers(t, l, set(0, 5), 7, 230, list(5), nil) // Least is 30, a 30: 66 and 24, 378 and 30
	times(t, l, 30, 51, 22, 30)
	send(t, l, 6, 500, 230, true, api.OK)
	answers(t, l, set(0, 6), 7, 267, list(6), nil) // a is 30: 66 and 21, 357 and 30
	times(t, l, 37, 48, 21, 30)
}

// P15.3: nothing is measured, if the last number is not among those that are got newly, or none of these asks.
func TestNotMeasured(t *testing.T) {
	l := row(t, 0, 0, 0, 0)
	answers(t, l, set(3, 3), 0, 0, list(3), list(0))
	times(t, l, 0, 0, 0, 0)
	answers(t, l, set(1, 3), 0, 100, list(1, 2), nil) // 3 was answered ahead
	times(t, l, 0, 0, 0, 0)

	l = made(t)
	send(t, l, 0, 10, 0, true, api.OK)
	send(t, l, 2, 10, 5, true, api.OK)
	send(t, l, 4, 10, 9, false, api.OK)
	send(t, l, 9, 10, 9, true, api.OK)
	answers(t, l, set(0, 1), 0, 10, list(0), nil) // 1 was never sent
	times(t, l, 0, 333, 166, 0)
	answers(t, l, set(4, 4), 0, 20, list(4), nil) // does not ask
	times(t, l, 0, 333, 166, 0)
	answers(t, l, set(2, 2), 0, 25, list(2), nil) // asks, and is the last, below the front though
	times(t, l, 20, 20, 10, 20)
}

// P15.3: one that asks among those that are got is enough; the time is that of the last number, which need not ask.
func TestMeasuredByAnother(t *testing.T) {
	l := made(t)
	send(t, l, 0, 10, 0, true, api.OK)
	send(t, l, 1, 10, 40, false, api.OK)
	answers(t, l, set(0, 1), 0, 50, list(0, 1), nil)
	times(t, l, 10, 10, 5, 10)
	bytesOf(t, l, 12010, 0)

	l = made(t)
	send(t, l, 0, 10, 0, true, api.OK)
	send(t, l, 1, 10, 40, false, api.OK)
	answers(t, l, set(0, 0), 0, 45, list(0), nil)
	answers(t, l, set(0, 1), 0, 50, list(1), nil) // 0 asks, but was answered ahead
	times(t, l, 45, 45, 22, 45)
}

// P15.5: Wait has at least 1 of Vary.
func TestWait(t *testing.T) {
	for _, c := range []struct{ latest, want uint64 }{{0, 26}, {1, 27}, {2, 2 + 4 + 25}, {3, 3 + 4 + 25}, {4, 4 + 8 + 25}, {100, 325}} {
		l := row(t, 7)
		if l.Wait() != 1022 {
			t.Errorf("wait %d, with nothing measured", l.Wait())
		}
		answers(t, l, set(0, 0), 0, 7+c.latest, list(0), nil)
		if l.Wait() != c.want {
			t.Errorf("latest %d: wait %d; want %d", c.latest, l.Wait(), c.want)
		}
	}
}

// P15.5: When is the time of the last packet that asks, and Wait, while none is below the front.
func TestWhenAsked(t *testing.T) {
	l := made(t)
	send(t, l, 0, 10, 3, false, api.OK)
	never(t, l)
	send(t, l, 1, 10, 5, true, api.OK)
	when(t, l, 5+1022)
	send(t, l, 2, 10, 9, false, api.OK)
	when(t, l, 5+1022)
	send(t, l, 3, 10, 20, true, api.OK)
	when(t, l, 20+1022)
	send(t, l, 4, 10, 30, true, api.OK)
	when(t, l, 30+1022)
	loses(t, l, 5000) // without a front nothing is
	when(t, l, 30+1022)
	answers(t, l, set(0, 0), 0, 5000, list(0), nil) // the front is 0
	when(t, l, 30+1022)
	answers(t, l, set(0, 3), 0, 5000, list(1, 2, 3), nil)
	times(t, l, 4980, 4980, 2490, 4980)
	when(t, l, 30+4980+4*2490+25)
	answers(t, l, set(4, 4), 0, 5000, list(4), nil)
	never(t, l)
	send(t, l, 5, 10, 5000, false, api.OK)
	never(t, l)
	send(t, l, 7, 10, 6000, true, api.OK)
	when(t, l, 6000+l.Wait())
}

// P15.5: where packets are below the front, When is the least of their times, whether they ask or not, and the patience; but false, if nothing that asks is on its way at all.
func TestWhenBelow(t *testing.T) {
	l := made(t)
	send(t, l, 0, 10, 100, false, api.OK)
	send(t, l, 1, 10, 105, true, api.OK)
	send(t, l, 2, 10, 108, true, api.OK)
	send(t, l, 3, 10, 115, true, api.OK)
	answers(t, l, set(2, 2), 0, 188, list(2), nil) // latest 80: the patience is 90
	when(t, l, 190)
	answers(t, l, set(0, 0), 0, 188, list(0), nil)
	when(t, l, 195)
	loses(t, l, 195, 1)
	when(t, l, 115+80+160+25)
	answers(t, l, set(3, 3), 0, 200, list(3), nil)
	never(t, l)

	l = made(t)
	send(t, l, 0, 10, 100, false, api.OK)
	send(t, l, 1, 10, 100, true, api.OK)
	answers(t, l, set(1, 1), 0, 180, list(1), nil)
	never(t, l) // 0 is on its way, but does not ask
	send(t, l, 2, 10, 180, true, api.OK)
	when(t, l, 190) // that of 0, though it does not ask, and 2 is above the front
	loses(t, l, 189)
	loses(t, l, 190, 0)
	when(t, l, 180+80+160+25)
}

// P15.5: the patience that When tells is 9 times the greater one of Smooth and Latest, divided by 8, cut; at least 1.
func TestPatience(t *testing.T) {
	for _, c := range []struct{ latest, want uint64 }{{0, 1}, {8, 9}, {9, 10}, {15, 16}, {16, 18}, {1000, 1125}} {
		l := row(t, 50, 50, 50)
		answers(t, l, set(2, 2), 0, 50+c.latest, list(2), nil)
		when(t, l, 50+c.want)
		loses(t, l, 50+c.want-1)
		loses(t, l, 50+c.want, 0, 1)
	}
	for _, latest := range []uint64{1, 2, 7} { // the patience is no more than has gone by
		answers(t, row(t, 50, 50, 50), set(2, 2), 0, 50+latest, list(2), list(0, 1))
	}
	l := row(t, 50, 50, 50)
	answers(t, l, set(0, 0), 0, 130, list(0), nil)
	answers(t, l, set(2, 2), 0, 210, list(2), nil) // Latest 160 is above Smooth 90
	when(t, l, 230)
	loses(t, l, 229)
	loses(t, l, 230, 1)
	l = row(t, 50)
	answers(t, l, set(0, 0), 0, 850, list(0), nil) // Latest 800
	send(t, l, 1, 10, 1000, true, api.OK)
	send(t, l, 2, 10, 1000, true, api.OK)
	answers(t, l, set(2, 2), 0, 1000, list(2), nil) // Smooth 700 is above Latest 0
	when(t, l, 1000+787)
	loses(t, l, 1786)
	loses(t, l, 1787, 1)
}

// P15.4, P15.5: a time below the front with nothing measured has the patience of what is taken ahead: 374.
func TestPatienceOfNothingMeasured(t *testing.T) {
	l := made(t)
	send(t, l, 0, 10, 100, true, api.OK)
	send(t, l, 1, 10, 100, false, api.OK)
	answers(t, l, set(1, 1), 0, 200, list(1), nil)
	times(t, l, 0, 333, 166, 0)
	when(t, l, 474)
	loses(t, l, 473)
	loses(t, l, 474, 0)
	never(t, l)
}
