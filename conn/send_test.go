package conn_test

import (
	"bytes"
	"math"
	"slices"
	"testing"

	"mailcoach/api"
	"mailcoach/conn"
)

// P18.4: now: at most MaxTime, not below any that was told ahead, whether by New, by Send or by Come; what is refused changes nothing.
func TestSendNow(t *testing.T) {
	c := made(t, config(true, great), 10)
	wrong := func(nows ...uint64) {
		t.Helper()
		for _, now := range nows {
			if l, e := c.Send(now); l != nil || e != api.ErrArg {
				t.Errorf("Send(%d): %d datagrams, %d", now, len(l), e)
			}
			for _, b := range [][]byte{nil, {1}, make([]byte, 65537)} { // ahead of ErrLimit
				if taken, e := c.Come(b, now); taken || e != api.ErrArg {
					t.Errorf("Come(%d bytes, %d): %v, %d", len(b), now, taken, e)
				}
			}
		}
	}
	wrong(0, 9, api.MaxTime+1, math.MaxUint64)
	if l := sent(t, c, 10); len(l) == 0 {
		t.Error("nothing is sent")
	}
	sent(t, c, 10)
	sent(t, c, 11)
	wrong(10)
	comes(t, c, nil, 20, false)
	wrong(19)
	comes(t, c, nil, 20, false)
	sent(t, c, 20)
	if _, e := c.Come(make([]byte, 65537), 30); e != api.ErrLimit {
		t.Error("Come of too many bytes:", e)
	}
	sent(t, c, 20) // the time did not go by with that
	c.Close(1)
	wrong(19, api.MaxTime+1)
	sent(t, c, api.MaxTime)
	comes(t, c, nil, api.MaxTime, false)
	wrong(api.MaxTime-1, api.MaxTime+1)
}

// P18.4: at the greatest time all goes as at any other; a time behind it is none at which there is anything to do.
func TestGreatestTime(t *testing.T) {
	for now, lost := range map[uint64]uint64{0: 1022, 1000: 2022, api.MaxTime - 1022: api.MaxTime, api.MaxTime - 1021: 0, api.MaxTime: 0} {
		c, s := made(t, config(true, great), now), made(t, config(false, great), now)
		hasTime(t, c, now)
		l := sent(t, c, now)
		if lost > 0 {
			hasTime(t, c, lost)
		} else {
			idle(t, c)
		}
		for _, b := range l {
			comes(t, s, b, now, true)
		}
		goes(t, c, s, now)
		opens(t, c, false, 0)
		writes(t, c, 0, "abc", true, api.OK)
		goes(t, c, s, now)
		reads(t, s, 0, "abc", true)
	}
}

// P18.4: When: nothing to do: a server whom nobody greeted; ends of which all came; such as have ended.
func TestWhenNothing(t *testing.T) {
	fresh := made(t, config(false, great), 7)
	idle(t, fresh)
	sent(t, fresh, 9)
	idle(t, fresh)
	c, s := both(t, great, great)
	idle(t, c)
	idle(t, s)
	opens(t, c, false, 0)
	hasTime(t, c, 0)
	goes(t, c, s, 50)
	idle(t, c)
	idle(t, s)
	writes(t, c, 0, "", false, api.OK)
	idle(t, c)
	writes(t, c, 0, "x", false, api.OK)
	hasTime(t, c, 50)
	sent(t, c, 60) // it does not come
	at, some := c.When()
	if !some || at <= 60 {
		t.Error("When:", at, some)
	}
	comes(t, c, nil, at+5, false) // it's too late for that time
	hasTime(t, c, at+5)
	goes(t, c, s, at+5)
	goes(t, c, s, at+500)
	idle(t, c)
	idle(t, s)
	reads(t, s, 0, "x", false)
	writes(t, s, 0, "abc", true, api.OK)
	hasTime(t, s, at+500)
	s.Close(1)
	hasTime(t, s, at+500)
	sent(t, s, at+500)
	idle(t, s)
}

// P18.4: who waits for room that the other end has to make has nothing to do by itself.
func TestWhenNoRoom(t *testing.T) {
	c, s := both(t, great, [4]uint64{10, 10, 1, 1})
	opens(t, c, false, 0)
	writes(t, c, 0, some(30), true, api.OK)
	goes(t, c, s, 0)
	idle(t, c)
	idle(t, s)
	reads(t, s, 0, some(30)[:10], false)
	hasTime(t, s, 0)
	for _, b := range sent(t, s, 0) {
		comes(t, c, b, 0, true)
	}
	hasTime(t, c, 0)
	goes(t, c, s, 0)
	idle(t, c)
}

// P18.4: at most 64 datagrams at once, each of at most MaxPacket bytes, and of just as many where there is enough to send; asked again at the same time there is nothing some time.
func TestSendMost(t *testing.T) {
	c, s := both(t, great, great)
	opens(t, c, false, 0)
	whole := some(api.MaxBytes)
	writes(t, c, 0, whole[:500000], false, api.OK)
	goes(t, c, s, 0) // so much came that much may be on the way
	reads(t, s, 0, whole[:500000], false)
	goes(t, c, s, 0)
	writes(t, c, 0, whole[500000:700000], false, api.OK)
	var all [][]byte
	for {
		l, e := c.Send(0)
		if e != api.OK || len(l) > 64 {
			t.Fatal("Send:", len(l), e)
		}
		if len(l) == 0 {
			break
		}
		if rest := 200000 / api.MaxPacket; len(all) == 0 && len(l) != 64 {
			t.Error("datagrams at once:", len(l), "of", rest)
		}
		all = append(all, l...)
	}
	full := 0
	for _, b := range all {
		if len(b) == api.MaxPacket {
			full++
		}
		comes(t, s, b, 0, true)
	}
	if full < len(all)-2 {
		t.Errorf("%d of %d datagrams have as many bytes as may be", full, len(all))
	}
	reads(t, s, 0, whole[500000:700000], false)
}

// P18.4: what is on the way is not more than there is room for: a way that answers nothing is not flooded.
func TestSendRoom(t *testing.T) {
	c, _ := both(t, great, great)
	opens(t, c, false, 0)
	writes(t, c, 0, some(100000), false, api.OK)
	bytesOf := func(l [][]byte) int { return len(bytes.Join(l, nil)) }
	if n := bytesOf(sent(t, c, 0)); n < 6000 || n > 40000 {
		t.Error("bytes at first:", n)
	}
	for range 50 {
		at, some := c.When()
		if !some {
			t.Fatal("nothing to do")
		}
		if n := bytesOf(sent(t, c, at)); n < 1 || n > 2*api.MaxPacket {
			t.Error("bytes that ask for an answer:", n)
		}
	}
}

// P18.4: what is lost is sent again, till it comes: the greeting, what was written, the end alone, that a stream is there, what makes room.
func TestSentAgain(t *testing.T) {
	now := uint64(0)
	c, s := made(t, config(true, great), 0), made(t, config(false, [4]uint64{600, 600, 1, 1}), 0)
	loses := func(from, to *conn.Conn) {
		t.Helper()
		for range 3 {
			if l := sent(t, from, now); len(l) == 0 {
				t.Fatal("nothing is sent at", now)
			}
			at, some := from.When()
			if !some || at <= now {
				t.Fatal("When:", at, some)
			}
			now = at
		}
		for _, b := range sent(t, from, now) {
			comes(t, to, b, now, true)
		}
	}
	loses(c, s) // the client's greeting
	for _, b := range sent(t, s, now) {
		comes(t, c, b, now, true)
	}
	loses(c, s) // its answer to that of the server
	goes(t, c, s, now)
	opens(t, c, false, 0)
	loses(c, s) // that there is a stream
	hasStreams(t, s, 0)
	goes(t, c, s, now)
	writes(t, c, 0, some(1200), false, api.OK)
	loses(c, s) // bytes
	goes(t, c, s, now)
	reads(t, s, 0, some(1200)[:600], false)
	loses(s, c) // room for more
	goes(t, c, s, now)
	reads(t, s, 0, some(1200)[600:], false)
	goes(t, c, s, now)
	writes(t, c, 0, "", true, api.OK)
	loses(c, s) // the end
	reads(t, s, 0, "", true)
	refused(t, c, false)
	loses(s, c) // room for one more stream
	goes(t, c, s, now)
	opens(t, c, false, 4)
	idle(t, s)
}

// P18.4: the server's greeting is sent again too.
func TestGreetingAgain(t *testing.T) {
	c, s := made(t, config(true, great), 0), made(t, config(false, great), 0)
	for _, b := range sent(t, c, 0) {
		comes(t, s, b, 0, true)
	}
	now := uint64(0)
	for range 5 {
		if l := sent(t, s, now); len(l) == 0 {
			t.Fatal("nothing is sent at", now)
		}
		now, _ = s.When()
	}
	for _, b := range sent(t, s, now) {
		comes(t, c, b, now, true)
	}
	if !c.Ready() {
		t.Error("not ready")
	}
	goes(t, c, s, now)
	if !s.Ready() {
		t.Error("not ready")
	}
}

// R4: what is handed in is not kept and stays as it was, its spare room too; what is answered is memory of its own.
func TestMemory(t *testing.T) {
	spare := func(text string) ([]byte, []byte) {
		b := append(make([]byte, 0, len(text)+9), text...)
		copy(b[len(text):cap(b)], "unchanged")
		return b, bytes.Clone(b[:cap(b)])
	}
	stays := func(what string, b, was []byte) {
		t.Helper()
		if !bytes.Equal(b[:cap(b)], was) {
			t.Errorf("%s: what was handed in is another: %x, not %x", what, b[:cap(b)], was)
		}
	}
	fill := func(l ...[]byte) {
		for _, b := range l {
			b = b[:cap(b)]
			for i := range b {
				b[i] = 0xee
			}
		}
	}
	shared, was := spare("shared")
	a, b := config(true, great), config(false, [4]uint64{100, 100, 5, 5})
	a.Shared, b.Shared = shared, shared
	c, s := made(t, a, 0), made(t, b, 0)
	stays("New", shared, was)
	fill(shared)
	now := uint64(0)
	pass := func(from, to *conn.Conn) {
		t.Helper()
		l := sent(t, from, now)
		copies := make([][]byte, len(l))
		for i := range l {
			copies[i] = bytes.Clone(l[i])
		}
		fill(l...) // what is sent again is not what was handed out
		for _, x := range copies {
			in, was := spare(string(x))
			comes(t, to, in, now, true)
			stays("Come", in, was)
			fill(in)
		}
	}
	for range 5 {
		pass(c, s)
		pass(s, c)
	}
	opens(t, c, false, 0)
	opens(t, c, false, 4)
	text, was := spare(some(150))
	if e := c.Write(0, text, true); e != api.OK {
		t.Error("Write:", e)
	}
	stays("Write", text, was)
	fill(text)
	lost := sent(t, c, now)
	fill(lost...)
	now, _ = c.When()
	var got []byte
	for range 9 {
		pass(c, s)
		pass(s, c)
		x, _, _ := s.Read(0)
		got = append(got, x...)
		fill(x)
		ids := s.Streams()
		if len(ids) > 0 {
			ids = ids[:cap(ids)]
			for i := range ids {
				ids[i] = 77
			}
		}
	}
	if string(got) != some(150) {
		t.Errorf("read: %x", got)
	}
	hasStreams(t, s, 0, 4)
}

// R5: what happens twice, in the same order, comes to the same; whatever goes on beside it.
func TestTwice(t *testing.T) {
	run := func() (all []byte) {
		c, s := both(t, great, [4]uint64{3000, 2000, 2, 2})
		for n := range uint64(2) {
			opens(t, c, false, 4*n)
			opens(t, c, true, 4*n+2)
			writes(t, c, 4*n, some(2500), true, api.OK)
			writes(t, c, 4*n+2, some(1500), false, api.OK)
		}
		now := uint64(0)
		for round := range 60 {
			for i, x := range sent(t, c, now) {
				all = append(all, x...)
				if (i+round)%3 > 0 {
					comes(t, s, x, now, true)
				}
			}
			for _, id := range s.Streams() {
				b, last, _ := s.Read(id)
				all = append(all, b...)
				if last {
					all = append(all, 1)
				}
			}
			for _, x := range sent(t, s, now) {
				all = append(all, x...)
				comes(t, c, x, now, true)
			}
			if at, some := c.When(); some {
				now = max(now, at)
			}
		}
		return all
	}
	want := run()
	var got [4][]byte
	t.Run("beside", func(t *testing.T) {
		for i := range got {
			t.Run("", func(t *testing.T) {
				t.Parallel()
				got[i] = run()
			})
		}
	})
	for _, b := range got {
		if !slices.Equal(b, want) {
			t.Error("it came to something else")
		}
	}
}
