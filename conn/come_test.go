package conn_test

import (
	"bytes"
	"slices"
	"testing"

	"mailcoach/api"
	"mailcoach/conn"
)

// twins: two ends that were told just the same, and one that talks to both of them.
type twins struct {
	t          *testing.T
	one, other *conn.Conn // to the second one things come that must change nothing
	talks      *conn.Conn
	now        uint64
}

// newTwins: clients' ends or servers'.
func newTwins(t *testing.T, client bool) *twins {
	t.Helper()
	return &twins{t: t, one: made(t, config(client, great), 0), other: made(t, config(client, great), 0), talks: made(t, config(!client, great), 0)}
}

// alike: both send just the same, and stand alike.
func (w *twins) alike() [][]byte {
	w.t.Helper()
	at, some := w.one.When()
	bt, too := w.other.When()
	if at != bt || some != too {
		w.t.Errorf("When: %d, %v; %d, %v", at, some, bt, too)
	}
	a, b := sent(w.t, w.one, w.now), sent(w.t, w.other, w.now)
	if !slices.EqualFunc(a, b, bytes.Equal) {
		w.t.Error("what was not taken made something else to be sent")
	}
	if w.one.Ready() != w.other.Ready() || !slices.Equal(w.one.Streams(), w.other.Streams()) {
		w.t.Error("what was not taken made another end of it")
	}
	return a
}

// steps: what they send comes, and what the one who talks does; ahead of each datagram bad ones come to the second twin.
func (w *twins) steps(bad func(b []byte) [][]byte) {
	w.t.Helper()
	for range 4 {
		for _, b := range w.alike() {
			comes(w.t, w.talks, b, w.now, true)
		}
		for _, b := range sent(w.t, w.talks, w.now) {
			for _, x := range bad(b) {
				comes(w.t, w.other, x, w.now, false)
			}
			comes(w.t, w.one, b, w.now, true)
			comes(w.t, w.other, b, w.now, true)
			for _, x := range bad(b) {
				comes(w.t, w.other, x, w.now, false)
			}
			comes(w.t, w.other, b, w.now, false)
		}
		for _, id := range w.one.Streams() {
			a, last, _ := w.one.Read(id)
			reads(w.t, w.other, id, string(a), last)
		}
		w.now += 3
	}
}

// P18.5: datagrams of no bytes, of bytes that are no packets, that were cut, changed, sealed by other keys: each changes nothing but the time.
func TestNotTaken(t *testing.T) {
	for _, client := range []bool{false, true} {
		w := newTwins(t, client)
		strange := config(!client, great)
		strange.Shared = []byte("sharec")
		stranger := made(t, strange, 0)
		strange.Shared, strange.Nonce = []byte("shared"), [32]byte{9} // another connection's
		c, s := made(t, config(true, great), 0), made(t, strange, 0)
		if client {
			strange.Client = false
		} else {
			c, s = s, made(t, config(false, great), 0)
		}
		others := slices.Concat(sent(t, stranger, 0), someTalk(t, c, s, !client))
		bad := func(b []byte) [][]byte {
			l := [][]byte{nil, {0}, {1, 2}, {0x40}, {0xc0}, {0xff}, make([]byte, 20), make([]byte, 1200), bytes.Repeat([]byte{0x40}, 65536), bytes.Repeat([]byte{0xc0, 0, 0, 0, 1, 0, 20}, 9000)}
			for _, n := range []int{1, 2, 6, 7, 20, 21, 27, len(b) / 2, len(b) - 17, len(b) - 16, len(b) - 1} {
				if n > 0 && n < len(b) {
					l = append(l, b[:n], b[n:])
				}
			}
			for i := 0; i < len(b); i += 1 + i/9 {
				x := bytes.Clone(b)
				x[i] ^= 1 << (i % 8)
				l = append(l, x)
			}
			if b[0]&0x80 == 0 { // behind a long packet there may be more
				l = append(l, append(bytes.Clone(b), 0))
			}
			return append(l, append([]byte{0}, b...))
		}
		w.steps(func(b []byte) [][]byte { return bad(b) })
		if !w.other.Ready() || !w.talks.Ready() {
			t.Fatal("not ready")
		}
		id, _ := w.talks.Open(true)
		writes(t, w.talks, id, "some bytes", true, api.OK)
		w.steps(func(b []byte) [][]byte { return slices.Concat(bad(b), others) })
		reads(t, w.other, id, "", true)
		goesOn(t, w.other)
	}
}

// someTalk: all that two ends send till both are ready, and a stream's bytes; those of the client, or of the server.
func someTalk(t *testing.T, c, s *conn.Conn, ofClient bool) (all [][]byte) {
	t.Helper()
	for i := range 4 {
		a := sent(t, c, 0)
		for _, b := range a {
			comes(t, s, b, 0, true)
		}
		b := sent(t, s, 0)
		for _, x := range b {
			comes(t, c, x, 0, true)
		}
		if ofClient {
			b = a
		}
		all = append(all, b...)
		if i == 2 {
			for _, end := range []*conn.Conn{c, s} {
				id, e := end.Open(true)
				if e != api.OK {
					t.Fatal("Open:", e)
				}
				writes(t, end, id, "other bytes", true, api.OK)
			}
		}
	}
	return all
}

// P18.5: what an end sent itself is not taken, when it comes back.
func TestOwnComesBack(t *testing.T) {
	for _, client := range []bool{false, true} {
		w := newTwins(t, client)
		for range 4 {
			for _, b := range w.alike() {
				comes(t, w.other, b, 0, false)
				comes(t, w.talks, b, 0, true)
			}
			for _, b := range sent(t, w.talks, 0) {
				comes(t, w.talks, b, 0, false)
				comes(t, w.one, b, 0, true)
				comes(t, w.other, b, 0, true)
			}
		}
		if !w.other.Ready() {
			t.Error("not ready")
		}
	}
}

// P18.5: each datagram is taken once, in whatever order all of them come, however late, and however many are lost.
func TestTakenOnce(t *testing.T) {
	c, s := both(t, great, great)
	opens(t, c, false, 0)
	var all [][]byte
	now := uint64(0)
	for i := range 701 { // more than a set of ranges has, each apart from the next
		l := sent(t, c, now)
		if len(l) != 1 {
			t.Fatal("datagrams:", len(l))
		}
		all = append(all, l...)
		if i%2 == 0 {
			comes(t, s, l[0], now, true)
			comes(t, s, l[0], now, false)
		}
		now, _ = c.When()
	}
	for i := range all {
		at := (i*37 + 5) % len(all)
		comes(t, s, all[at], now, at%2 == 1)
		comes(t, s, all[at], now, false)
	}
	for _, b := range sent(t, s, now) {
		comes(t, c, b, now, true)
	}
	idle(t, c)
}

// P18.5: at most 65536 bytes.
func TestComeLimit(t *testing.T) {
	for _, client := range []bool{false, true} {
		c := made(t, config(client, great), 0)
		for _, first := range []byte{0, 0x40, 0xc0} {
			for size, want := range map[int]api.Errno{0: api.OK, 1: api.OK, 1200: api.OK, 1201: api.OK, 65535: api.OK, 65536: api.OK, 65537: api.ErrLimit, 200000: api.ErrLimit} {
				if taken, e := c.Come(bytes.Repeat([]byte{first}, size), 0); taken || e != want {
					t.Errorf("Come of %d bytes: %v, %d; not %d", size, taken, e, want)
				}
			}
		}
	}
	c, s := both(t, great, great)
	opens(t, c, true, 2)
	writes(t, c, 2, some(3000), true, api.OK)
	for _, b := range sent(t, c, 0) {
		if _, e := s.Come(append(bytes.Clone(b), make([]byte, 65537-len(b))...), 0); e != api.ErrLimit {
			t.Error("Come:", e)
		}
		comes(t, s, append(bytes.Clone(b), make([]byte, 65536-len(b))...), 0, false)
		comes(t, s, b, 0, true)
	}
	reads(t, s, 2, some(3000), true)
}

// P18.5, the words: a datagram holds packets, one behind the other: it is taken, if one of them is opened that was not opened ahead.
func TestJoined(t *testing.T) {
	c, s := made(t, config(true, great), 0), made(t, config(false, great), 0)
	hi := sent(t, c, 0)[0]
	comes(t, s, slices.Concat(hi, []byte("more")), 0, true) // what is no packet is passed over
	comes(t, s, slices.Concat(hi, hi), 0, false)
	l := sent(t, s, 0)
	if len(l) < 2 || l[0][0]&0x80 == 0 || l[1][0]&0x80 != 0 {
		t.Fatalf("the server sends other things: %x", l)
	}
	comes(t, c, slices.Concat(l[1], l[0]), 0, false) // all of the first one is not long: it tells no end
	comes(t, c, slices.Concat(l[0], l[0], l[1]), 0, true)
	if !c.Ready() {
		t.Error("not ready")
	}
	comes(t, c, l[0], 0, false)
	comes(t, c, l[1], 0, false)
	m := sent(t, c, 0)
	comes(t, s, slices.Concat(hi, m[0]), 0, true)
	comes(t, s, slices.Concat(hi, m[0]), 0, false)
	comes(t, s, slices.Concat(hi, m[1]), 0, true)
	if !s.Ready() {
		t.Error("not ready")
	}
	goes(t, c, s, 0)
}

// P18.5: a datagram that comes too early, ahead of the keys that open it, is not taken; it is when it comes again.
func TestTooEarly(t *testing.T) {
	c, s := made(t, config(true, great), 0), made(t, config(false, great), 0)
	for _, b := range sent(t, c, 0) {
		comes(t, s, b, 0, true)
	}
	l := sent(t, s, 0)
	for _, b := range l[1:] {
		comes(t, c, b, 0, false)
	}
	for _, b := range l {
		comes(t, c, b, 0, true)
	}
}

// P18.1, P18.5: a client's packet that is not long shows a server too that the client knows what both share: its keys hang on that.
func TestReadyByPacket(t *testing.T) {
	c, s := made(t, config(true, great), 0), made(t, config(false, great), 0)
	for _, b := range sent(t, c, 0) {
		comes(t, s, b, 0, true)
	}
	for _, b := range sent(t, s, 0) {
		comes(t, c, b, 0, true)
	}
	opens(t, c, false, 0)
	writes(t, c, 0, "abc", true, api.OK)
	l := sent(t, c, 0)
	if l[0][0]&0x80 == 0 || l[1][0]&0x80 != 0 {
		t.Fatalf("the client sends other things: %x", l)
	}
	for _, b := range l[1:] {
		comes(t, s, b, 0, true)
	}
	if !s.Ready() {
		t.Error("not ready")
	}
	reads(t, s, 0, "abc", true)
	comes(t, s, l[0], 0, true)
	goes(t, c, s, 0)
	goesOn(t, s)
}
