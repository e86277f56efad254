package stream_test

import (
	"testing"

	"mailcoach/api"
	"mailcoach/stream"
)

// told: what is known of a byte, or of the end.
type told struct{ sent, came, lost bool }

// plain: a sender as the chapter's words tell it, byte by byte.
type plain struct {
	id, credit uint64
	written    []byte
	bytes      []told
	hasEnd     bool
	end        told
	wasReset   bool
}

// sent: how many bytes were.
func (p *plain) sent() (n uint64) {
	for _, b := range p.bytes {
		if b.sent {
			n++
		}
	}
	return n
}

func (p *plain) firstLost() (int, bool) {
	for i, b := range p.bytes {
		if b.lost {
			return i, true
		}
	}
	return 0, false
}

func (p *plain) done() bool {
	for _, b := range p.bytes {
		if !b.came {
			return false
		}
	}
	return p.hasEnd && p.end.came && !p.wasReset
}

func (p *plain) write(b []byte, last bool) api.Errno {
	if p.hasEnd || p.wasReset {
		return api.ErrState
	}
	if len(p.written)+len(b) > 1048576 {
		return api.ErrLimit
	}
	p.written = append(p.written, b...)
	p.bytes = append(p.bytes, make([]told, len(b))...)
	p.hasEnd = last
	return api.OK
}

// tell: a frame of so many bytes, which are sent and not lost then.
func (p *plain) tell(from, count int) (api.Frame, bool) {
	f := api.Frame{Kind: api.FrStream, Stream: p.id, Offset: uint64(from)}
	for i := from; i < from+count; i++ {
		f.Data = append(f.Data, p.written[i])
		p.bytes[i].sent, p.bytes[i].lost = true, false
	}
	if p.hasEnd && from+count == len(p.written) {
		f.Fin = true
		p.end.sent, p.end.lost = true, false
	}
	return f, true
}

func (p *plain) take(n int, fresh uint64) (api.Frame, bool) {
	if p.wasReset || n < 0 {
		return api.Frame{}, false
	}
	at, lost := p.firstLost()
	if n > 0 && lost {
		count := 0
		for count < n && at+count < len(p.bytes) && p.bytes[at+count].lost {
			count++
		}
		return p.tell(at, count)
	}
	if n > 0 {
		at, count := p.sent(), 0
		for count < n && uint64(count) < fresh && at+uint64(count) < p.credit && at+uint64(count) < uint64(len(p.written)) {
			count++
		}
		if count > 0 {
			return p.tell(int(at), count)
		}
	}
	if p.hasEnd && p.sent() == uint64(len(p.written)) && (!p.end.sent || p.end.lost) && !lost {
		return p.tell(len(p.written), 0)
	}
	return api.Frame{}, false
}

func (p *plain) its(f api.Frame) bool {
	if f.Kind != api.FrStream || f.Stream != p.id || f.Limit != 0 || f.Code != 0 || len(f.Ranges) != 0 || f.Offset > p.sent() {
		return false
	}
	for i, b := range f.Data {
		if place := int(f.Offset) + i; place >= len(p.written) || p.written[place] != b || !p.bytes[place].sent {
			return false
		}
	}
	return !f.Fin || p.end.sent && int(f.Offset)+len(f.Data) == len(p.written)
}

// heard: a frame came in there, or is lost.
func (p *plain) heard(f api.Frame, came bool) api.Errno {
	if !p.its(f) {
		return api.ErrArg
	}
	if p.wasReset {
		return api.OK
	}
	one := func(b *told) {
		if came {
			b.came, b.lost = true, false
		} else if !b.came {
			b.lost = true
		}
	}
	for i := range f.Data {
		one(&p.bytes[int(f.Offset)+i])
	}
	if f.Fin {
		one(&p.end)
	}
	return api.OK
}

func (p *plain) raise(credit uint64) api.Errno {
	if credit > 1<<62-1 {
		return api.ErrArg
	}
	if credit > p.credit {
		p.credit = credit
	}
	return api.OK
}

func (p *plain) reset() (uint64, api.Errno) {
	if p.wasReset || p.done() {
		return 0, api.ErrState
	}
	p.wasReset = true
	return p.sent(), api.OK
}

// pair: a sender, and what the chapter's words say of it; with the frames that were told.
type pair struct {
	t      *testing.T
	s      *stream.Sender
	p      *plain
	frames []api.Frame
}

func newPair(t *testing.T, id, credit uint64) *pair {
	t.Helper()
	s, e := stream.NewSender(id, credit)
	if s == nil || e != api.OK {
		t.Fatalf("NewSender(%d, %d): %v, %d", id, credit, s, e)
	}
	return &pair{t: t, s: s, p: &plain{id: id, credit: credit}}
}

// alike: both answered the same, and stand alike.
func (c *pair) alike(call string, answer, want any, args ...any) {
	c.t.Helper()
	if answer != want {
		c.t.Fatalf("%s%v: %v; want %v; %+v", call, args, answer, want, *c.p)
	}
	if c.s.Fresh() != c.p.sent() || c.s.Done() != c.p.done() {
		c.t.Fatalf("%s%v: fresh %d, done %v; want %d, %v", call, args, c.s.Fresh(), c.s.Done(), c.p.sent(), c.p.done())
	}
}

func (c *pair) write(b string, last bool) {
	c.t.Helper()
	c.alike("Write", c.s.Write([]byte(b), last), c.p.write([]byte(b), last), len(b), last)
}

func (c *pair) take(n int, fresh uint64) bool {
	c.t.Helper()
	f, ok := c.s.Take(n, fresh)
	g, okToo := c.p.take(n, fresh)
	if !same(f, g) {
		c.t.Fatalf("Take(%d, %d): %v; want %v; %+v", n, fresh, f, g, *c.p)
	}
	c.alike("Take", ok, okToo, n, fresh)
	if ok {
		c.frames = append(c.frames, f)
	}
	return ok
}

func (c *pair) heard(f api.Frame, came bool) {
	c.t.Helper()
	if came {
		c.alike("Got", c.s.Got(f), c.p.heard(f, true), f)
	} else {
		c.alike("Lost", c.s.Lost(f), c.p.heard(f, false), f)
	}
}

func (c *pair) raise(credit uint64) {
	c.t.Helper()
	c.alike("Raise", c.s.Raise(credit), c.p.raise(credit), credit)
}

func (c *pair) reset() {
	c.t.Helper()
	n, e := c.s.Reset()
	m, eToo := c.p.reset()
	c.alike("Reset", n, m)
	c.alike("Reset", e, eToo)
}

// drain: all that there is to be told is, with as much credit as there may be.
func (c *pair) drain() {
	c.t.Helper()
	c.take(0, 0)
	c.raise(api.MaxNumber)
	for c.take(2, 9) {
	}
	c.take(0, 0)
}
