package conn_test

import (
	"math"
	"testing"

	"mailcoach/api"
	"mailcoach/conn"
)

// P18.1 to P18.5: the chapter's examples.
func TestExamples(t *testing.T) {
	fresh := made(t, config(true, great), 0)
	comes(t, fresh, []byte{1, 2}, 0, false)
	notOpened(t, fresh, api.ErrState)
	c, s := both(t, great, great)
	opens(t, c, false, 0)
	writes(t, c, 0, "hello", true, api.OK)
	goes(t, c, s, 0)
	hasStreams(t, s, 0)
	reads(t, s, 0, "hello", true)
	writes(t, s, 0, "hi", true, api.OK)
	goes(t, c, s, 0)
	reads(t, c, 0, "hi", true)
}

// P18.1: New, of what may be and what may not.
func TestNew(t *testing.T) {
	may := func(c conn.Config, now uint64, e api.Errno) {
		t.Helper()
		end, got := conn.New(c, now)
		if got != e || (end != nil) != (e == api.OK) {
			t.Errorf("New(%v, %d): %v, %d; not %d", c, now, end, got, e)
		}
		if end != nil && end.Ready() {
			t.Error("ready at once")
		}
	}
	for _, client := range []bool{false, true} {
		for size, e := range map[int]api.Errno{0: api.ErrArg, 1: api.OK, 2: api.OK, 255: api.OK, 256: api.OK, 257: api.ErrArg, 70000: api.ErrArg} {
			may(conn.Config{Client: client, Shared: make([]byte, size), Idle: 1}, 0, e)
		}
		may(conn.Config{Client: client, Shared: nil, Idle: 1}, 0, api.ErrArg)
		for n, e := range map[uint64]api.Errno{0: api.OK, 1: api.OK, 64: api.OK, 65: api.OK, api.MaxNumber: api.OK, api.MaxNumber + 1: api.ErrArg, math.MaxUint64: api.ErrArg} {
			for i := range 4 {
				c := conn.Config{Client: client, Shared: []byte{1}, Idle: 1}
				c.Limits[i] = n
				may(c, 0, e)
			}
		}
		for n, e := range map[uint64]api.Errno{1: api.OK, 2: api.OK, api.MaxTime: api.OK, api.MaxTime + 1: api.ErrArg, math.MaxUint64: api.ErrArg} {
			may(conn.Config{Client: client, Shared: []byte{1}, Idle: n}, 0, e)
			may(conn.Config{Client: client, Shared: []byte{1}, Idle: 1}, n, e)
		}
		may(conn.Config{Client: client, Shared: []byte{1}, Idle: 0}, 0, api.ErrArg)
	}
}

// P18.1: Ready: the client is, when the server's greeting came; the server, when the client's answer to that did.
func TestReady(t *testing.T) {
	c, s := made(t, config(true, great), 0), made(t, config(false, great), 0)
	is := func(client, server bool) {
		t.Helper()
		if c.Ready() != client || s.Ready() != server {
			t.Errorf("Ready: %v, %v; not %v, %v", c.Ready(), s.Ready(), client, server)
		}
	}
	give := func(from, to *conn.Conn) {
		t.Helper()
		for _, b := range sent(t, from, 0) {
			comes(t, to, b, 0, true)
		}
	}
	is(false, false)
	if l := sent(t, s, 0); l != nil {
		t.Error("a server sends to nobody:", l)
	}
	give(c, s)
	is(false, false)
	give(s, c)
	is(true, false)
	give(c, s)
	is(true, true)
	goes(t, c, s, 0)
	is(true, true)
}

// P18.1: what both share has one byte, or as many as may be; the nonces are any.
func TestShared(t *testing.T) {
	for _, size := range []int{1, 2, 255, 256} {
		for _, nonce := range [][2]byte{{0, 0}, {0, 1}, {7, 7}} {
			a, b := config(true, great), config(false, great)
			a.Shared, b.Shared = []byte(some(size)), []byte(some(size))
			a.Nonce, b.Nonce = [32]byte{31: nonce[0]}, [32]byte{31: nonce[1]}
			c, s := made(t, a, 0), made(t, b, 0)
			goes(t, c, s, 0)
			if !c.Ready() || !s.Ready() {
				t.Error("not ready:", size, nonce)
			}
		}
	}
}

// P18.1: ends that do not share the same are never ready, whatever comes; nor are two clients, or two servers.
func TestStrangers(t *testing.T) {
	stranger := config(false, great)
	stranger.Shared = []byte("sharee")
	longer := config(false, great)
	longer.Shared = []byte("shared\x00")
	for _, other := range []conn.Config{stranger, longer, config(true, great)} {
		c, s := made(t, config(true, great), 0), made(t, other, 0)
		now := uint64(0)
		for range 50 {
			for _, pair := range [][2]*conn.Conn{{c, s}, {s, c}} {
				for _, b := range sent(t, pair[0], now) {
					comes(t, pair[1], b, now, false)
				}
			}
			now += 1000
		}
		if c.Ready() || s.Ready() {
			t.Error("ready:", c.Ready(), s.Ready())
		}
		notOpened(t, c, api.ErrState)
		notOpened(t, s, api.ErrState)
	}
}

// P18.2: Open: the next stream's number, of each kind and each end.
func TestOpen(t *testing.T) {
	c, s := both(t, great, great)
	for n := range uint64(api.MaxStreams) {
		opens(t, c, false, 4*n)
		opens(t, s, true, 4*n+3)
		opens(t, c, true, 4*n+2)
		opens(t, s, false, 4*n+1)
	}
	notOpened(t, c, api.ErrLimit)
	notOpened(t, s, api.ErrLimit)
}

// P18.2: Open: as many as the other end's limit lets, of each kind: none, one, as many as may be.
func TestOpenLimit(t *testing.T) {
	most := map[uint64]uint64{0: 0, 1: 1, 2: 2, 63: 63, 64: 64, 65: 64, api.MaxNumber: 64}
	for two := range most {
		one := two ^ 1 // another one
		c, s := both(t, [4]uint64{5, 5, one, two}, [4]uint64{5, 5, two, min(one, api.MaxNumber)})
		for _, x := range []struct {
			end    *conn.Conn
			oneWay bool
			first  uint64
			limit  uint64
		}{{c, false, 0, two}, {c, true, 2, one}, {s, false, 1, one}, {s, true, 3, two}} {
			lets := min(x.limit, 64)
			for n := range lets {
				opens(t, x.end, x.oneWay, x.first+4*n)
			}
			if id, e := x.end.Open(x.oneWay); id != 0 || e != api.ErrLimit {
				t.Errorf("limit %d: Open(%v) once more: %d, %d", x.limit, x.oneWay, id, e)
			}
		}
	}
}

// P18.2: Open and Write of an end that is not ready, and of one that has ended, whether it was ready or not.
func TestNotNow(t *testing.T) {
	for _, client := range []bool{false, true} {
		c := made(t, config(client, great), 0)
		notOpened(t, c, api.ErrState)
		writes(t, c, 0, "x", false, api.ErrGone)
		if e := c.Close(7); e != api.OK {
			t.Error("Close:", e)
		}
		notOpened(t, c, api.ErrEnd)
		writes(t, c, 0, "x", false, api.ErrEnd)
		writes(t, c, 99, some(10), true, api.ErrEnd)
	}
	c, s := both(t, great, [4]uint64{9, 9, 1, 1})
	opens(t, c, false, 0)
	opens(t, c, true, 2)
	writes(t, c, 2, "x", true, api.OK)
	c.Close(7)
	notOpened(t, c, api.ErrEnd) // ahead of ErrLimit
	writes(t, c, 0, "x", false, api.ErrEnd)
	writes(t, c, 2, "x", false, api.ErrEnd) // ahead of ErrState
	writes(t, c, 8, "x", false, api.ErrEnd) // ahead of ErrGone
	goesOn(t, s)
}

// P18.2: Write: streams that are not there, and those into which this end may not write.
func TestWriteGone(t *testing.T) {
	c, s := both(t, great, great)
	opens(t, c, true, 2)
	opens(t, c, false, 0)
	opens(t, s, true, 3)
	goes(t, c, s, 0)
	for _, id := range []uint64{1, 3, 4, 5, 6, 7, 255, 256, 258, api.MaxNumber, api.MaxNumber + 1, math.MaxUint64} {
		writes(t, c, id, "x", false, api.ErrGone)
		writes(t, c, id, some(api.MaxBytes+1), true, api.ErrGone)
	}
	for _, id := range []uint64{1, 2, 4, 5, 6, 7, math.MaxUint64} {
		writes(t, s, id, "x", false, api.ErrGone)
	}
	writes(t, c, 0, "x", false, api.OK)
	writes(t, c, 2, "x", false, api.OK)
	writes(t, s, 0, "x", false, api.OK)
	writes(t, s, 3, "x", false, api.OK)
}

// P18.2: Write: behind the end; and what was refused changed nothing.
func TestWriteEnd(t *testing.T) {
	c, s := both(t, great, great)
	for i, x := range []struct {
		b    string
		want string
	}{{"", "ab"}, {"cd", "abcd"}} {
		id := uint64(4 * i)
		opens(t, c, false, id)
		writes(t, c, id, "ab", false, api.OK)
		writes(t, c, id, "", false, api.OK)
		writes(t, c, id, x.b, true, api.OK)
		writes(t, c, id, "x", false, api.ErrState)
		writes(t, c, id, "", false, api.ErrState)
		writes(t, c, id, "", true, api.ErrState)
		writes(t, c, id, some(api.MaxBytes+1), true, api.ErrState)
		goes(t, c, s, 0)
		writes(t, c, id, "x", true, api.ErrState)
		goes(t, c, s, 0)
		reads(t, s, id, x.want, true)
	}
}

// P18.2: Write: of just as many bytes as a stream may have, at once or one behind the other, and of one more; all that was not refused comes.
func TestWriteMost(t *testing.T) {
	c, s := both(t, great, great)
	whole := some(api.MaxBytes)
	opens(t, c, false, 0)
	writes(t, c, 0, whole+"x", true, api.ErrLimit)
	writes(t, c, 0, whole, false, api.OK)
	writes(t, c, 0, "x", false, api.ErrLimit)
	writes(t, c, 0, "x", true, api.ErrLimit)
	writes(t, c, 0, "", false, api.OK)
	writes(t, c, 0, "", true, api.OK)
	writes(t, c, 0, "x", true, api.ErrState)
	opens(t, s, true, 3)
	writes(t, s, 3, "ab", false, api.OK)
	writes(t, s, 3, whole[1:], true, api.ErrLimit)
	writes(t, s, 3, whole[2:], true, api.OK)
	goes(t, c, s, 0)
	reads(t, s, 0, whole, true)
	reads(t, c, 3, "ab"+whole[2:], true)
}

// P18.3: Read: of nothing, of all, of the end, and again behind it; the end alone; bytes without the end.
func TestRead(t *testing.T) {
	c, s := both(t, great, great)
	opens(t, c, false, 0)
	goes(t, c, s, 0)
	reads(t, s, 0, "", false)
	reads(t, c, 0, "", false)
	writes(t, c, 0, "", false, api.OK)
	goes(t, c, s, 0)
	reads(t, s, 0, "", false)
	writes(t, c, 0, "abc", false, api.OK)
	reads(t, s, 0, "", false)
	goes(t, c, s, 0)
	reads(t, s, 0, "abc", false)
	reads(t, s, 0, "", false)
	writes(t, c, 0, "de", false, api.OK)
	goes(t, c, s, 0)
	writes(t, c, 0, "f", true, api.OK)
	goes(t, c, s, 0)
	reads(t, s, 0, "def", true)
	for range 3 {
		reads(t, s, 0, "", true)
		goes(t, c, s, 0)
	}
	opens(t, c, true, 2)
	writes(t, c, 2, "", true, api.OK)
	goes(t, c, s, 0)
	reads(t, s, 2, "", true)
	reads(t, s, 2, "", true)
	opens(t, c, true, 6)
	writes(t, c, 6, "xy", false, api.OK)
	goes(t, c, s, 0)
	reads(t, s, 6, "xy", false)
	writes(t, c, 6, "", true, api.OK)
	reads(t, s, 6, "", false)
	goes(t, c, s, 0)
	reads(t, s, 6, "", true)
	reads(t, s, 6, "", true)
}

// P18.3: Read: streams that are not there, and those from which this end may not read.
func TestReadGone(t *testing.T) {
	c, s := both(t, great, great)
	notRead(t, c, 0, 1, 2, 3, math.MaxUint64)
	notRead(t, s, 0, 1, 2, 3, math.MaxUint64)
	opens(t, c, true, 2)
	opens(t, c, false, 0)
	notRead(t, s, 0, 2) // nobody told it of them
	writes(t, c, 0, "x", false, api.OK)
	writes(t, c, 2, "y", false, api.OK)
	goes(t, c, s, 0)
	notRead(t, c, 1, 2, 3, 4, 6, 256, api.MaxNumber+1)
	notRead(t, s, 1, 3, 4, 5, 6, 7, 256, api.MaxNumber+1)
	reads(t, c, 0, "", false)
	reads(t, s, 0, "x", false)
	reads(t, s, 2, "y", false)
}

// P18.3: Read: what came can be read, though the end has ended, whoever ended it.
func TestReadBehindEnd(t *testing.T) {
	for _, closes := range []bool{false, true} {
		c, s := both(t, great, great)
		opens(t, c, false, 0)
		writes(t, c, 0, "abc", true, api.OK)
		goes(t, c, s, 0)
		if closes {
			s.Close(5)
		} else {
			c.Close(5)
		}
		goes(t, c, s, 0)
		hasEnded(t, c, 5)
		hasEnded(t, s, 5)
		hasStreams(t, s, 0)
		reads(t, s, 0, "abc", true)
		reads(t, s, 0, "", true)
		notRead(t, s, 4)
	}
}

// P18.3: Streams: none; those that the other end opened, rising, and none of this end's own; one into which nothing was written too.
func TestStreams(t *testing.T) {
	c, s := both(t, great, great)
	hasStreams(t, c)
	hasStreams(t, s)
	for n := range uint64(3) {
		opens(t, c, true, 4*n+2)
	}
	hasStreams(t, c)
	hasStreams(t, s)
	goes(t, c, s, 0)
	hasStreams(t, c)
	hasStreams(t, s, 2, 6, 10)
	opens(t, c, false, 0)
	opens(t, c, false, 4)
	writes(t, c, 4, "x", true, api.OK)
	opens(t, s, false, 1)
	opens(t, s, true, 3)
	opens(t, s, false, 5)
	goes(t, c, s, 0)
	hasStreams(t, s, 0, 2, 4, 6, 10)
	hasStreams(t, c, 1, 3, 5)
	reads(t, s, 4, "x", true)
	goes(t, c, s, 0)
	hasStreams(t, s, 0, 2, 4, 6, 10) // those that are over too
}

// P18.3: a stream of which the other end tells was opened behind those of lower numbers: they are there too, though nothing came of them.
func TestStreamsBelow(t *testing.T) {
	c, s := both(t, great, great)
	for n := range uint64(3) {
		opens(t, c, false, 4*n)
		writes(t, c, 4*n, some(1100), false, api.OK)
	}
	l := sent(t, c, 0)
	if len(l) < 3 {
		t.Fatal("datagrams:", len(l))
	}
	comes(t, s, l[2], 0, true)
	hasStreams(t, s, 0, 4, 8)
	reads(t, s, 0, "", false)
	writes(t, s, 0, "abc", false, api.OK)
	for _, b := range sent(t, s, 0) {
		comes(t, c, b, 0, true)
	}
	reads(t, c, 0, "abc", false)
	comes(t, s, l[0], 0, true)
	comes(t, s, l[1], 0, true)
	reads(t, s, 0, some(1100), false)
}

// The words: limits of 0 let nothing go, limits of streams none be opened; but the end of a stream needs none.
func TestNoCredit(t *testing.T) {
	for _, limits := range [][4]uint64{{0, 100, 1, 1}, {100, 0, 1, 1}, {0, 0, 1, 1}} {
		c, s := both(t, great, limits)
		opens(t, c, false, 0)
		opens(t, c, true, 2)
		writes(t, c, 0, "abc", true, api.OK)
		writes(t, c, 2, "", true, api.OK)
		goes(t, c, s, 0)
		hasStreams(t, s, 0, 2)
		reads(t, s, 0, "", false)
		reads(t, s, 2, "", true)
		goes(t, c, s, 0)
		reads(t, s, 0, "", false)
		goesOn(t, c)
		goesOn(t, s)
	}
	c, s := both(t, [4]uint64{}, [4]uint64{})
	notOpened(t, c, api.ErrLimit)
	notOpened(t, s, api.ErrLimit)
}

// The words: limits of 1 let one byte go, and one more, when that was read.
func TestLeastCredit(t *testing.T) {
	for _, limits := range [][4]uint64{{1, api.MaxNumber, 1, 1}, {api.MaxNumber, 1, 1, 1}, {1, 1, 1, 1}} {
		c, s := both(t, great, limits)
		opens(t, c, true, 2)
		writes(t, c, 2, "abcd", true, api.OK)
		for i, x := range []string{"a", "b", "c", "d"} {
			goes(t, c, s, 0)
			reads(t, s, 2, x, i == 3)
			reads(t, s, 2, "", i == 3)
		}
		goes(t, c, s, 0)
		opens(t, c, true, 6)
	}
}

// The words: a stream's bytes that came and were not read are no more than its limit; what was read makes room for more.
func TestCreditOfEach(t *testing.T) {
	c, s := both(t, great, [4]uint64{api.MaxNumber, 1000, 5, 5})
	whole := some(2500)
	opens(t, c, false, 0)
	opens(t, c, false, 4)
	writes(t, c, 0, whole, true, api.OK)
	writes(t, c, 4, whole[:1000], true, api.OK) // its credit is just reached
	goes(t, c, s, 0)
	reads(t, s, 4, whole[:1000], true)
	reads(t, s, 0, whole[:1000], false)
	reads(t, s, 0, "", false)
	goes(t, c, s, 0)
	reads(t, s, 0, whole[1000:2000], false)
	goes(t, c, s, 0)
	reads(t, s, 0, whole[2000:], true)
}

// The words: likewise of all streams together.
func TestCreditOfAll(t *testing.T) {
	c, s := both(t, great, [4]uint64{1000, api.MaxNumber, 5, 5})
	whole := some(2500)
	for n := range uint64(3) {
		opens(t, c, true, 4*n+2)
		writes(t, c, 4*n+2, whole[:700], true, api.OK)
	}
	goes(t, c, s, 0)
	all := 0
	for range 6 {
		came := 0
		for _, id := range s.Streams() {
			b, _, _ := s.Read(id)
			came += len(b)
		}
		if all == 0 && came != 1000 || came > 1000 || came == 0 && all < 3*700 {
			t.Errorf("behind %d bytes %d came", all, came)
		}
		all += came
		goes(t, c, s, 0)
	}
	if all != 3*700 {
		t.Error("bytes in all:", all)
	}
	for n := range uint64(3) {
		reads(t, s, 4*n+2, "", true)
	}
}

// The words: streams of the other end that are over make room for as many more, of their kind, but for no more than may be in all; those of this end do not.
func TestRoomForMore(t *testing.T) {
	for _, oneWay := range []bool{false, true} {
		for _, limit := range []uint64{1, 2, 63} {
			c, s := both(t, great, [4]uint64{1000, 1000, limit, limit})
			first := uint64(0)
			if oneWay {
				first = 2
			}
			for n := range limit {
				opens(t, c, oneWay, first+4*n)
			}
			for n := range uint64(api.MaxStreams) {
				id := first + 4*n
				if n+limit <= api.MaxStreams {
					refused(t, c, oneWay)
				}
				writes(t, c, id, "abc", false, api.OK)
				goes(t, c, s, 0)
				reads(t, s, id, "abc", false)
				goes(t, c, s, 0)
				if n+limit <= api.MaxStreams {
					refused(t, c, oneWay)
				}
				writes(t, c, id, "", true, api.OK)
				goes(t, c, s, 0)
				refused(t, c, oneWay) // it came, but was not read
				reads(t, s, id, "", true)
				reads(t, s, id, "", true)
				refused(t, c, oneWay) // it does not know yet
				goes(t, c, s, 0)
				if next := n + limit; next < api.MaxStreams {
					opens(t, c, oneWay, first+4*next)
				}
			}
			refused(t, c, oneWay)
			opens(t, c, !oneWay, 2-first) // of the other kind there is as much room as there was
		}
	}
}

// refused: there is no room for one more stream of a kind.
func refused(t *testing.T, c *conn.Conn, oneWay bool) {
	t.Helper()
	if id, e := c.Open(oneWay); id != 0 || e != api.ErrLimit {
		t.Fatalf("Open(%v): %d, %d; not ErrLimit", oneWay, id, e)
	}
}

// The words: streams that this end opened and the other one ended make no room.
func TestNoRoomByOwn(t *testing.T) {
	c, s := both(t, [4]uint64{1000, 1000, 1, 1}, [4]uint64{1000, 1000, 1, 1})
	opens(t, c, false, 0)
	opens(t, s, false, 1)
	goes(t, c, s, 0)
	writes(t, s, 0, "abc", true, api.OK)
	goes(t, c, s, 0)
	reads(t, c, 0, "abc", true)
	goes(t, c, s, 0)
	refused(t, c, false)
	refused(t, s, false)
}

// R3: an end that is not there, and one that New did not make: each function.
func TestNoEnd(t *testing.T) {
	for name, c := range map[string]*conn.Conn{"nil": nil, "zero": new(conn.Conn)} {
		notOpened(t, c, api.ErrNil)
		writes(t, c, 0, "x", true, api.ErrNil)
		if b, last, e := c.Read(0); b != nil || last || e != api.ErrNil {
			t.Error(name, "Read:", b, last, e)
		}
		if l := c.Streams(); l != nil {
			t.Error(name, "Streams:", l)
		}
		for _, now := range []uint64{0, api.MaxTime, math.MaxUint64} {
			if l, e := c.Send(now); l != nil || e != api.ErrNil {
				t.Error(name, "Send:", l, e)
			}
			for _, b := range [][]byte{nil, {1, 2}, make([]byte, 65537)} {
				if taken, e := c.Come(b, now); taken || e != api.ErrNil {
					t.Error(name, "Come:", taken, e)
				}
			}
		}
		idle(t, c)
		if c.Ready() {
			t.Error(name, "ready")
		}
		for _, code := range []uint64{0, api.MaxNumber + 1} {
			if e := c.Close(code); e != api.ErrNil {
				t.Error(name, "Close:", e)
			}
		}
		goesOn(t, c)
	}
}
