package conn_test

import (
	"bytes"
	"slices"
	"testing"

	"mailcoach/api"
	"mailcoach/conn"
)

// great limits: of nothing there is too much.
var great = [4]uint64{api.MaxNumber, api.MaxNumber, api.MaxNumber, api.MaxNumber}

// config of a client's end, or a server's, with the same Shared.
func config(client bool, limits [4]uint64) conn.Config {
	nonce := byte(2)
	if client {
		nonce = 1
	}
	return conn.Config{Client: client, Shared: []byte("shared"), Nonce: [32]byte{nonce}, Limits: limits, Idle: 200000}
}

// made: an end that may be.
func made(t *testing.T, c conn.Config, now uint64) *conn.Conn {
	t.Helper()
	end, e := conn.New(c, now)
	if e != api.OK || end == nil {
		t.Fatalf("New(%v, %d): %v, %d", c, now, end, e)
	}
	return end
}

// sent: what an end sends at a time, asked again till there is nothing. When told so, and tells no such time behind it.
func sent(t *testing.T, c *conn.Conn, now uint64) (all [][]byte) {
	t.Helper()
	for range 1000 {
		at, some := c.When()
		l, e := c.Send(now)
		if e != api.OK || len(l) > 64 {
			t.Fatalf("Send(%d): %d datagrams, %d", now, len(l), e)
		}
		for _, b := range l {
			if len(b) < 1 || len(b) > api.MaxPacket {
				t.Fatalf("Send(%d): a datagram of %d bytes", now, len(b))
			}
		}
		if len(l) > 0 && (!some || at > now) {
			t.Fatalf("something is sent at %d, but When said %d, %v", now, at, some)
		}
		if len(l) == 0 {
			if at, some := c.When(); some && at <= now {
				t.Fatalf("nothing is to be sent at %d, but something is to be done at %d", now, at)
			}
			return all
		}
		all = append(all, l...)
	}
	t.Fatal("Send: there is always something")
	return nil
}

// comes: a datagram comes in at a time; it must be taken, or not.
func comes(t *testing.T, c *conn.Conn, b []byte, now uint64, taken bool) {
	t.Helper()
	if got, e := c.Come(b, now); got != taken || e != api.OK {
		t.Errorf("Come(%x, %d): %v, %d; not %v", b, now, got, e, taken)
	}
}

// goes: two ends send till there is nothing, all of it coming.
func goes(t *testing.T, a, b *conn.Conn, now uint64) {
	t.Helper()
	for range 10000 {
		first, second := sent(t, a, now), sent(t, b, now)
		for _, x := range first {
			comes(t, b, x, now, true)
		}
		for _, x := range second {
			comes(t, a, x, now, true)
		}
		if len(first)+len(second) == 0 {
			return
		}
	}
	t.Fatal("they send and send")
}

// both: a client's end and a server's that are ready, at the time 0.
func both(t *testing.T, client, server [4]uint64) (c, s *conn.Conn) {
	t.Helper()
	c, s = made(t, config(true, client), 0), made(t, config(false, server), 0)
	goes(t, c, s, 0)
	if !c.Ready() || !s.Ready() {
		t.Fatal("not ready:", c.Ready(), s.Ready())
	}
	return c, s
}

// opens: a stream, of the number that is to be.
func opens(t *testing.T, c *conn.Conn, oneWay bool, id uint64) {
	t.Helper()
	if got, e := c.Open(oneWay); got != id || e != api.OK {
		t.Fatalf("Open(%v): %d, %d; not %d", oneWay, got, e, id)
	}
}

// notOpened: for that reason.
func notOpened(t *testing.T, c *conn.Conn, want api.Errno) {
	t.Helper()
	for _, oneWay := range []bool{false, true} {
		if id, e := c.Open(oneWay); id != 0 || e != want {
			t.Errorf("Open(%v): %d, %d; not %d", oneWay, id, e, want)
		}
	}
}

// writes: what is answered is to be that.
func writes(t *testing.T, c *conn.Conn, id uint64, b string, last bool, want api.Errno) {
	t.Helper()
	if e := c.Write(id, []byte(b), last); e != want {
		t.Errorf("Write(%d, %d bytes, %v): %d, not %d", id, len(b), last, e, want)
	}
}

// reads: what is answered is to be that.
func reads(t *testing.T, c *conn.Conn, id uint64, want string, end bool) {
	t.Helper()
	b, last, e := c.Read(id)
	if string(b) != want || last != end || e != api.OK {
		t.Errorf("Read(%d): %d bytes, %v, %d; not %d bytes, %v", id, len(b), last, e, len(want), end)
	}
}

// notRead: there is no such stream.
func notRead(t *testing.T, c *conn.Conn, ids ...uint64) {
	t.Helper()
	for _, id := range ids {
		if b, last, e := c.Read(id); b != nil || last || e != api.ErrGone {
			t.Errorf("Read(%d): %d bytes, %v, %d; not ErrGone", id, len(b), last, e)
		}
	}
}

// hasStreams: that the other end opened.
func hasStreams(t *testing.T, c *conn.Conn, ids ...uint64) {
	t.Helper()
	if l := c.Streams(); !slices.Equal(l, ids) {
		t.Errorf("Streams: %v, not %v", l, ids)
	}
}

// hasEnded: with that code.
func hasEnded(t *testing.T, c *conn.Conn, code uint64) {
	t.Helper()
	if got, over := c.Ended(); got != code || !over {
		t.Errorf("Ended: %d, %v; not %d", got, over, code)
	}
}

// goesOn: it has not ended.
func goesOn(t *testing.T, c *conn.Conn) {
	t.Helper()
	if code, over := c.Ended(); code != 0 || over {
		t.Errorf("Ended: %d, %v", code, over)
	}
}

// idle: it has nothing to do by itself.
func idle(t *testing.T, c *conn.Conn) {
	t.Helper()
	if at, some := c.When(); at != 0 || some {
		t.Errorf("When: %d, %v", at, some)
	}
}

// hasTime: the time at which it has something to do.
func hasTime(t *testing.T, c *conn.Conn, want uint64) {
	t.Helper()
	if at, some := c.When(); at != want || !some {
		t.Errorf("When: %d, %v; not %d", at, some, want)
	}
}

// some bytes, so many, each unlike those near it.
func some(n int) string {
	var b bytes.Buffer
	for i := range n {
		b.WriteByte(byte(i*i>>3 + i))
	}
	return b.String()
}
