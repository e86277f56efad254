package conn_test

import (
	"bytes"
	"math"
	"testing"

	"mailcoach/api"
	"mailcoach/conn"
)

// P18.6: Close: with whatever code, by either end; the other one is told when it sends next.
func TestClose(t *testing.T) {
	for _, code := range []uint64{0, 1, 77, api.MaxNumber} {
		for i := range 2 {
			c, s := both(t, great, great)
			ends := [2]*conn.Conn{c, s}
			a, b := ends[i], ends[1-i]
			if e := a.Close(api.MaxNumber + 1); e != api.ErrArg {
				t.Error("Close:", e)
			}
			if e := a.Close(math.MaxUint64); e != api.ErrArg {
				t.Error("Close:", e)
			}
			goesOn(t, a)
			idle(t, a)
			if e := a.Close(code); e != api.OK {
				t.Error("Close:", e)
			}
			hasEnded(t, a, code)
			goesOn(t, b)
			if e := a.Close(5); e != api.ErrEnd {
				t.Error("Close again:", e)
			}
			if e := a.Close(math.MaxUint64); e != api.ErrArg { // ahead of ErrEnd
				t.Error("Close again:", e)
			}
			hasTime(t, a, 0)
			l := sent(t, a, 4)
			if len(l) != 1 {
				t.Error("datagrams:", len(l))
			}
			idle(t, a)
			comes(t, b, l[0], 4, true)
			hasEnded(t, b, code)
			if e := b.Close(5); e != api.ErrEnd {
				t.Error("Close of one who was told:", e)
			}
			idle(t, b)
			if l := sent(t, b, 9); l != nil {
				t.Error("who was told sends:", l)
			}
			hasEnded(t, a, code)
			hasEnded(t, b, code)
			if !a.Ready() || !b.Ready() {
				t.Error("not ready any more")
			}
		}
	}
}

// P18.6: who has ended sends nothing of what was written, and takes no more of what comes.
func TestCloseDropsAll(t *testing.T) {
	c, s := both(t, great, great)
	opens(t, c, false, 0)
	opens(t, s, false, 1)
	writes(t, c, 0, some(5000), true, api.OK)
	writes(t, s, 1, some(5000), true, api.OK)
	late := sent(t, s, 0)
	c.Close(3)
	for _, b := range late {
		comes(t, c, b, 0, true)
	}
	hasStreams(t, c)
	for _, b := range sent(t, c, 0) {
		comes(t, s, b, 0, true)
	}
	hasStreams(t, s)
	hasEnded(t, s, 3)
	notRead(t, c, 1)
}

// P18.6: an end that did not get to know of it is told again, when it sends something; two that both closed leave it at that.
func TestToldAgain(t *testing.T) {
	c, s := both(t, great, great)
	opens(t, s, false, 1)
	c.Close(3)
	if l := sent(t, c, 0); len(l) != 1 { // it's lost
		t.Error("datagrams:", len(l))
	}
	for range 3 {
		idle(t, c)
		now, _ := s.When()
		l := sent(t, s, now)
		if len(l) == 0 {
			t.Fatal("nothing is sent")
		}
		for _, b := range l {
			comes(t, c, b, now, true)
			comes(t, c, b, now, false)
		}
		hasTime(t, c, now)
		l = sent(t, c, now)
		if len(l) != 1 {
			t.Error("datagrams:", len(l))
		}
		idle(t, c)
		if _, over := s.Ended(); over {
			t.Error("it was not told")
		}
		if now > 1000 {
			comes(t, s, l[0], now, true)
			break
		}
	}
	c, s = both(t, great, great)
	c.Close(3)
	s.Close(4)
	goes(t, c, s, 0)
	hasEnded(t, c, 3)
	hasEnded(t, s, 4)
	idle(t, c)
	idle(t, s)
}

// P18.6: ends that are not ready tell it too: a client who greeted, one who did not; a server who greeted, and one to whom nobody came yet, as soon as one does.
func TestCloseNotReady(t *testing.T) {
	c, s := made(t, config(true, great), 0), made(t, config(false, great), 0)
	c.Close(6)
	goes(t, c, s, 0)
	hasEnded(t, s, 6)

	c, s = made(t, config(true, great), 0), made(t, config(false, great), 0)
	l := sent(t, c, 0)
	c.Close(6)
	for _, b := range l {
		comes(t, s, b, 0, true)
	}
	for _, b := range sent(t, c, 0) {
		comes(t, s, b, 0, true)
	}
	goes(t, c, s, 0)
	hasEnded(t, s, 6)
	hasEnded(t, c, 6)

	c, s = made(t, config(true, great), 0), made(t, config(false, great), 0)
	s.Close(7)
	idle(t, s)
	if l := sent(t, s, 0); l != nil {
		t.Error("it is told to nobody:", l)
	}
	goes(t, c, s, 0)
	hasEnded(t, c, 7)

	c, s = made(t, config(true, great), 0), made(t, config(false, great), 0)
	for _, b := range sent(t, c, 0) {
		comes(t, s, b, 0, true)
	}
	for _, b := range sent(t, s, 0) {
		comes(t, c, b, 0, true)
	}
	s.Close(7) // the client is ready, the server not
	goes(t, c, s, 0)
	hasEnded(t, c, 7)
	hasEnded(t, s, 7)

	c, s = made(t, config(true, great), 0), made(t, config(false, great), 0)
	for _, b := range sent(t, c, 0) {
		comes(t, s, b, 0, true)
	}
	for _, b := range sent(t, s, 0) {
		comes(t, c, b, 0, true)
	}
	sent(t, c, 0) // all of that is lost
	c.Close(8)
	goes(t, c, s, 0)
	hasEnded(t, s, 8)
}

// P18.6: no datagram was taken for just Idle, and for more, since New or since the last that was; nobody is told of that.
func TestIdle(t *testing.T) {
	for _, idleFor := range []uint64{1, 2, 1000, api.MaxTime - 50, api.MaxTime} {
		for _, from := range []uint64{0, 50} {
			for _, client := range []bool{false, true} {
				for _, bySend := range []bool{false, true} {
					cfg := config(client, great)
					cfg.Idle = idleFor
					c := made(t, cfg, from)
					goesTo := func(now uint64) {
						if bySend {
							sent(t, c, now)
						} else {
							comes(t, c, []byte{0x40, 1, 2}, now, false)
						}
					}
					goesTo(from)
					if from+idleFor > api.MaxTime {
						goesTo(api.MaxTime)
						goesOn(t, c)
						continue
					}
					goesTo(from + idleFor)
					goesOn(t, c)
					if from+idleFor == api.MaxTime {
						continue
					}
					goesTo(from + idleFor + 1)
					hasEnded(t, c, 0)
					notOpened(t, c, api.ErrEnd)
					writes(t, c, 0, "x", false, api.ErrEnd)
					if e := c.Close(5); e != api.ErrEnd {
						t.Error("Close:", e)
					}
					hasEnded(t, c, 0)
					idle(t, c)
					if l := sent(t, c, from+idleFor+1); l != nil {
						t.Error("something is sent:", l)
					}
				}
			}
		}
	}
}

// P18.6: what is taken makes it wait anew; what is not taken, and what is sent, do not.
func TestIdleAnew(t *testing.T) {
	a, b := config(true, great), config(false, great)
	a.Idle, b.Idle = 100, 100
	c, s := made(t, a, 0), made(t, b, 0)
	goes(t, c, s, 0)
	opens(t, c, false, 0)
	now := uint64(0)
	var was []byte
	for range 5 {
		now += 100
		writes(t, c, 0, "x", false, api.OK)
		for _, x := range sent(t, c, now) {
			comes(t, s, x, now, true)
			was = x
		}
		for _, x := range sent(t, s, now) {
			comes(t, c, x, now, true)
		}
		goesOn(t, c)
		goesOn(t, s)
	}
	writes(t, c, 0, "y", false, api.OK)
	sent(t, c, now+100)
	comes(t, s, was, now+100, false) // it came already
	goesOn(t, c)
	goesOn(t, s)
	late := sent(t, c, now+101)
	if late != nil {
		t.Error("something is sent:", late)
	}
	comes(t, s, was, now+101, false)
	hasEnded(t, c, 0)
	hasEnded(t, s, 0)
	reads(t, s, 0, "xxxxx", false)
}

// P18.6: what comes when it was too long ahead comes too late: the end has ended.
func TestIdleTooLate(t *testing.T) {
	a := config(false, great)
	a.Idle = 100
	c, s := made(t, config(true, great), 0), made(t, a, 0)
	for _, b := range sent(t, c, 0) {
		if _, e := s.Come(b, 101); e != api.OK {
			t.Error("Come:", e)
		}
	}
	hasEnded(t, s, 0)
	if l := sent(t, s, 101); l != nil {
		t.Error("something is sent:", l)
	}
}

// P18.6: datagrams that tell of an end are no bigger than others, and come once.
func TestFarewell(t *testing.T) {
	c, s := both(t, great, great)
	c.Close(api.MaxNumber)
	l := sent(t, c, 0)
	comes(t, s, bytes.Clone(l[0]), 0, true)
	comes(t, s, l[0], 0, false)
	hasEnded(t, s, api.MaxNumber)
}
