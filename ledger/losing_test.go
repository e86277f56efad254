package ledger_test

import (
	"testing"

	"mailcoach/api"
	"mailcoach/ledger"
)

// P15.3: of packets below the front, one that is 3 or more below it is lost, one that is 1 or 2 below is not.
func TestFarBelow(t *testing.T) {
	l := row(t, 0, 0, 0, 0, 0, 0)
	answers(t, l, set(1, 1), 0, 0, list(1), nil)
	answers(t, l, set(2, 2), 0, 0, list(2), nil)
	bytesOf(t, l, 14000, 4000)
	answers(t, l, set(3, 3), 0, 0, list(3), list(0))
	answers(t, l, set(5, 5), 0, 0, list(5), nil)
	when(t, l, 1)
	loses(t, l, 0)
	answers(t, l, set(4, 4), 0, 0, list(4), nil)
	never(t, l)
	for below, lost := range [][]uint64{1: nil, 2: nil, 3: list(97), 4: list(96), 5: list(95)} {
		if below == 0 {
			continue
		}
		l := made(t)
		send(t, l, 100-uint64(below), 10, 0, true, api.OK)
		send(t, l, 100, 10, 0, true, api.OK)
		answers(t, l, set(100, 100), 0, 0, list(100), lost)
		if lost == nil {
			bytesOf(t, l, 12010, 10)
		} else {
			bytesOf(t, l, 6005, 0)
		}
	}
}

// P15.3: numbers that were not used count for how far below a packet is; at the greatest numbers too.
func TestFarBelowAtTheEdges(t *testing.T) {
	l := made(t)
	for _, n := range []uint64{0, most - 4, most - 3, most - 2, most - 1, most} {
		send(t, l, n, 10, 0, true, api.OK)
	}
	answers(t, l, set(most, most), 0, 0, list(most), list(0, most-4, most-3))
	answers(t, l, set(0, most-1), 0, 0, list(most-2, most-1), nil)
	l = row(t, 0, 0, 0, 0)
	answers(t, l, set(0, 0), 0, 0, list(0), nil) // a front of 0: nothing is below
	loses(t, l, late)
	bytesOf(t, l, 13000, 3000)
}

// P15.3: the front is the greatest number that was answered newly: a lesser one later does not lower it, and one at or above it is not lost, however late.
func TestFront(t *testing.T) {
	l := row(t, 0, 0, 0, 0, 0)
	answers(t, l, set(3, 3), 0, 0, list(3), list(0))
	answers(t, l, set(1, 1), 0, 0, list(1), nil)
	when(t, l, 1) // 2 is below 3 still
	loses(t, l, late, 2)
	loses(t, l, late)
	bytesOf(t, l, 6500, 1000)
	when(t, l, 26)
	answers(t, l, set(4, 4), 0, late, list(4), nil)
	l = made(t)
	send(t, l, 0, 10, 0, true, api.OK)
	send(t, l, 1, 10, 0, false, api.OK)
	answers(t, l, set(1, 1), 0, 0, list(1), nil) // a front may not ask
	loses(t, l, 374, 0)
}

// P15.3, P15.4: a time that is with the patience one less than now, just now, one more.
func TestLate(t *testing.T) {
	for _, c := range []struct {
		sent uint64
		lost []uint64
	}{{99, list(0)}, {100, list(0)}, {101, nil}} {
		l := row(t, c.sent, 110)
		answers(t, l, set(1, 1), 0, 190, list(1), c.lost) // the patience is 90
		if c.lost == nil {
			bytesOf(t, l, 13000, 1000)
			loses(t, l, 190)
			loses(t, l, 191, 0)
		}
		bytesOf(t, l, 6500, 0)
		loses(t, l, 191)
	}
}

// P15.4: the patience that counts is the one behind what was measured in the same call.
func TestPatienceIsTheNewOne(t *testing.T) {
	l := row(t, 0, 300, 300)
	answers(t, l, set(0, 0), 0, 300, list(0), nil) // 337
	answers(t, l, set(2, 2), 0, 600, list(2), nil)
	l = row(t, 0, 0, 0)
	answers(t, l, set(0, 0), 0, 8, list(0), nil)    // 9
	answers(t, l, set(2, 2), 0, 800, list(2), nil)  // 900
	answers(t, l, set(1, 1), 0, 1000, list(1), nil) // what is late may still be answered
	bytesOf(t, l, 15000, 0)
}

// P15.4: a patience of 1.
func TestPatienceOfOne(t *testing.T) {
	l := row(t, 5, 5, 5)
	answers(t, l, set(2, 2), 0, 5, list(2), nil)
	loses(t, l, 5)
	when(t, l, 6)
	loses(t, l, 6, 0, 1)
	never(t, l)
}

// P15.4: what is lost is told in order, once, and is not on its way then: neither got later nor lost again.
func TestLostOnce(t *testing.T) {
	l := row(t, 0, 0, 0, 0, 0, 0)
	answers(t, l, set(5, 5), 0, 8, list(5), list(0, 1, 2)) // the patience is 9
	bytesOf(t, l, 6500, 2000)
	loses(t, l, 9, 3, 4)
	loses(t, l, 9)
	loses(t, l, late)
	answers(t, l, set(0, 5), 0, late, nil, nil)
	bytesOf(t, l, 6500, 0)
}

// P15.3, P15.6: packets that do not ask are not of Away, do not let the window grow, and their loss does not shrink it.
func TestNotAsking(t *testing.T) {
	l := made(t)
	for n := range uint64(6) {
		send(t, l, n, 1000, 0, false, api.OK)
	}
	bytesOf(t, l, 12000, 0)
	answers(t, l, set(1, 1, 5, 5), 0, 50, list(1, 5), list(0, 2))
	bytesOf(t, l, 12000, 0)
	loses(t, l, 1000, 3, 4)
	bytesOf(t, l, 12000, 0)
	times(t, l, 0, 333, 166, 0)
	never(t, l)
	send(t, l, 6, 1000, 1000, true, api.OK)
	answers(t, l, set(6, 6), 0, 1000, list(6), nil)
	bytesOf(t, l, 13000, 0) // no threshold has come
}

// P15.3, P15.6: without a threshold the window grows by the sizes of what is got and asks, all of it.
func TestGrowsBySize(t *testing.T) {
	l := made(t)
	sizes := []int{1, 7, 500, 1199, 1200, 333}
	for n, size := range sizes {
		send(t, l, uint64(n), size, 0, n != 4, api.OK)
	}
	bytesOf(t, l, 12000, 2040)
	answers(t, l, set(0, 1), 0, 0, list(0, 1), nil)
	bytesOf(t, l, 12008, 2032)
	answers(t, l, set(2, 5), 0, 0, list(2, 3, 4, 5), nil)
	bytesOf(t, l, 12008+500+1199+333, 0)
}

// shrunk: a ledger with a moment at 100, a threshold and a window of 6500, the number 4 as its front, and nothing on its way.
func shrunk(t *testing.T) *ledger.Ledger {
	t.Helper()
	l := row(t, 0, 10, 20, 30, 50)
	answers(t, l, set(4, 4), 0, 100, list(4), list(0, 1, 2, 3))
	bytesOf(t, l, 6500, 0)
	return l
}

// P15.3, P15.6: a window at the threshold, or above it, grows by 1200 times the size divided by it, cut, one packet behind the other.
func TestGrowsSlowly(t *testing.T) {
	l := shrunk(t)
	for n := range uint64(4) {
		send(t, l, 10+n, 1200, 101, true, api.OK)
	}
	answers(t, l, set(10, 10), 0, 101, list(10), nil)
	bytesOf(t, l, 6500+221, 3600) // 1440000/6500
	answers(t, l, set(11, 12), 0, 101, list(11, 12), nil)
	bytesOf(t, l, 6721+214+207, 1200) // 1440000/6721, 1440000/6935
	send(t, l, 14, 5, 101, true, api.OK)
	send(t, l, 15, 6, 101, true, api.OK)
	answers(t, l, set(14, 14), 0, 101, list(14), nil)
	bytesOf(t, l, 7142, 1206) // 6000/7142 is none
	answers(t, l, set(15, 15), 0, 101, list(15), nil)
	bytesOf(t, l, 7143, 1200) // 7200/7142
}

// P15.3, P15.6: what was sent up to the moment does not let the window grow; what was sent behind it does.
func TestGrowsBehindTheMoment(t *testing.T) {
	for _, c := range []struct {
		sent uint64
		room int
	}{{99, 6500}, {100, 6500}, {101, 6684}} {
		l := row(t, 0, 10, 20, 30, 50)
		if c.sent < 100 {
			send(t, l, 9, 1000, c.sent, true, api.OK)
		}
		answers(t, l, set(4, 4), 0, 100, list(4), list(0, 1, 2, 3))
		if c.sent >= 100 {
			send(t, l, 9, 1000, c.sent, true, api.OK)
		}
		bytesOf(t, l, 6500, 1000)
		answers(t, l, set(9, 9), 0, 120, list(9), nil)
		bytesOf(t, l, c.room, 0)
	}
}

// P15.3: a moment at the time 0 is one: what was sent then, behind the loss, does not let the window grow.
func TestMomentOfZero(t *testing.T) {
	l := row(t, 0, 0, 0, 0)
	answers(t, l, set(3, 3), 0, 0, list(3), list(0))
	bytesOf(t, l, 6500, 2000)
	answers(t, l, set(2, 2), 0, 0, list(2), nil)
	bytesOf(t, l, 6500, 1000)
	send(t, l, 4, 1000, 0, true, api.OK)
	answers(t, l, set(4, 4), 0, 0, list(4), list(1)) // lost at the moment: once is enough
	bytesOf(t, l, 6500, 0)
	send(t, l, 5, 1000, 1, true, api.OK)
	answers(t, l, set(5, 5), 0, 1, list(5), nil)
	bytesOf(t, l, 6684, 0)
}

// P15.3, P15.4: a loss of what was sent at the moment or ahead of it does not shrink the window again; of what was sent behind it does.
func TestShrinksBehindTheMoment(t *testing.T) {
	for _, c := range []struct {
		sent uint64
		room int
	}{{100, 6684}, {101, 3342}} {
		l := shrunk(t)
		send(t, l, 5, 1000, c.sent, true, api.OK)
		send(t, l, 9, 1000, 101, true, api.OK)
		answers(t, l, set(9, 9), 0, 103, list(9), list(5))
		bytesOf(t, l, c.room, 0)
	}
	l := row(t, 0, 0, 0, 0, 0, 0)
	answers(t, l, set(5, 5), 0, 8, list(5), list(0, 1, 2))
	bytesOf(t, l, 6500, 2000)
	loses(t, l, 9, 3, 4) // ahead of the moment
	bytesOf(t, l, 6500, 0)
}

// P15.4: of several that are lost the greatest time counts, and only of those that ask.
func TestShrinksByTheGreatestTime(t *testing.T) {
	for _, c := range []struct {
		first, second bool
		room          int
	}{{true, true, 3342}, {false, true, 3342}, {true, false, 6684}, {false, false, 6684}} {
		l := shrunk(t)
		send(t, l, 5, 1000, 100, c.first, api.OK)
		send(t, l, 6, 1000, 101, c.second, api.OK)
		send(t, l, 9, 1000, 101, true, api.OK)
		answers(t, l, set(9, 9), 0, 103, list(9), list(5, 6))
		bytesOf(t, l, c.room, 0)
	}
}

// P15.4: the moment is when it was lost, not when it was sent; by Lose as by Answer.
func TestMomentIsNow(t *testing.T) {
	l := row(t, 100, 100, 100)
	answers(t, l, set(2, 2), 0, 180, list(2), nil) // the patience is 90
	send(t, l, 3, 1000, 185, true, api.OK)
	loses(t, l, 195, 0, 1)
	bytesOf(t, l, 6500, 1000)
	send(t, l, 4, 1000, 195, true, api.OK)
	answers(t, l, set(3, 4), 0, 195, list(3, 4), nil)
	bytesOf(t, l, 6500, 0)
	send(t, l, 5, 1000, 196, true, api.OK)
	answers(t, l, set(5, 5), 0, 196, list(5), nil)
	bytesOf(t, l, 6684, 0)
}

// P15.3: the window grows by what was got ahead of shrinking by what is lost in the same call.
func TestGrowsThenShrinks(t *testing.T) {
	l := row(t, 0, 0, 0, 0, 0, 0, 0)
	answers(t, l, set(1, 3, 6, 6), 0, 0, list(1, 2, 3, 6), list(0))
	bytesOf(t, l, 8000, 2000)
}

// shrinkOn: loses a packet, so many times, each behind the last moment; it answers the next number.
func shrinkOn(t *testing.T, l *ledger.Ledger, times int) {
	t.Helper()
	for i := range uint64(times) {
		n, now := 1000+10*i, 1000+10*i
		send(t, l, n, 1, now, true, api.OK)
		send(t, l, n+5, 1, now, false, api.OK)
		answers(t, l, set(n+5, n+5), 0, now, list(n+5), list(n))
	}
}

// P15.4, P15.7: a window is not below 2400, however often something is lost; the threshold is, and half of the window.
func TestLeastWindow(t *testing.T) {
	for times, room := range []int{12000, 6000, 3000, 2400, 2400, 2400} {
		l := made(t)
		shrinkOn(t, l, times)
		bytesOf(t, l, room, 0)
		send(t, l, 2000, 1200, 2000, true, api.OK)
		answers(t, l, set(2000, 2000), 0, 2000, list(2000), nil)
		// at the threshold, or above it since that is 1500 or 1200: none is below it
		bytesOf(t, l, room+[]int{1200, 240, 480, 600, 600, 600}[times], 0)
	}
}

// P15.4: a window of just 4800, or about as much, is halved to 2400.
func TestHalvedToTheLeast(t *testing.T) {
	for _, c := range []struct{ room, want int }{{4798, 2400}, {4799, 2400}, {4800, 2400}, {4801, 2400}, {4802, 2401}, {4803, 2401}} {
		l := windowOf(t, c.room)
		send(t, l, 900000, 1, 900000, true, api.OK)
		send(t, l, 900005, 1, 900000, false, api.OK)
		answers(t, l, set(900005, 900005), 0, 900000, list(900005), list(900000))
		bytesOf(t, l, c.want, 0)
		send(t, l, 900010, 1200, 900001, true, api.OK)
		answers(t, l, set(900010, 900010), 0, 900001, list(900010), nil)
		grown := 1440000 / c.want // also where the threshold is 2399: the window is above it
		bytesOf(t, l, c.want+grown, 0)
	}
}

// windowOf: a ledger with a window of so many bytes (2400 or more), which shrank to 2400 and grew on from there, byte by byte.
func windowOf(t *testing.T, room int) *ledger.Ledger {
	t.Helper()
	l := made(t)
	shrinkOn(t, l, 3)
	n := uint64(2000)
	for l.Room() < room {
		size := (l.Room() + 1199) / 1200 // the least that lets it grow, by 1
		send(t, l, n, size, n, true, api.OK)
		answers(t, l, set(n, n), 0, n, list(n), nil)
		n++
	}
	if l.Room() != room {
		t.Fatalf("a window of %d; want %d", l.Room(), room)
	}
	return l
}

// P15.3: nothing was lost, so there is no moment: a loss of what was sent at the time 0 shrinks the window.
func TestLossAtTimeZero(t *testing.T) {
	l := row(t, 0, 0, 0, 0)
	answers(t, l, set(3, 3), 0, 0, list(3), list(0))
	bytesOf(t, l, 6500, 2000)
}
