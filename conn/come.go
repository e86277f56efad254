package conn

import (
	"slices"

	"mailcoach/api"
	"mailcoach/flow"
	"mailcoach/frame"
	"mailcoach/packet"
)

// mostComing: bytes of a datagram that comes in.
const mostComing = 65536

// Of a packet's bytes: the bit of the first one that tells a long packet; where in such a one, sent to one who has no name, the length of the sender's stands.
const (
	longBit = 0x80
	nameAt  = 6
)

// opened is a packet that was opened, and how many bytes it had.
type opened struct {
	header  api.Header
	payload []byte
	size    int
}

// treatment: what is done with a frame; and in which packets it may be.
type treatment struct {
	do          func(*Conn, api.Frame) api.Errno
	long, short bool
}

// treatments of frames, by their kinds. Those that are not named may not be: no end has a use for them.
func treatments() [api.FrDone + 1]treatment {
	return [...]treatment{
		api.FrPadding:       {do: (*Conn).passesOver, long: true, short: true},
		api.FrPing:          {do: (*Conn).passesOver, short: true},
		api.FrAck:           {do: (*Conn).isAnswered, short: true},
		api.FrCrypto:        {do: (*Conn).hearsBytes, long: true},
		api.FrStream:        {do: (*Conn).takesBytes, short: true},
		api.FrMaxData:       {do: (*Conn).maySend, short: true},
		api.FrMaxStreamData: {do: (*Conn).maySendOver, short: true},
		api.FrMaxStreams:    {do: (*Conn).mayOpen, short: true},
		api.FrClose:         {do: (*Conn).isClosed, long: true, short: true},
		api.FrDone:          {}, // so that there is a place for each kind
	}
}

// Come: a datagram comes in: was it taken? (P18.5)
func (c *Conn) Come(b []byte, now uint64) (bool, api.Errno) {
	switch {
	case !c.there():
		return false, api.ErrNil
	case !c.mayBe(now):
		return false, api.ErrArg
	case len(b) > mostComing:
		return false, api.ErrLimit
	}
	c.goOn(now)
	taken := false
	for rest := b; len(rest) > 0; {
		p, ok := c.open(rest)
		if !ok {
			break
		}
		rest = rest[p.size:]
		if !c.came.has(p.header.Number) {
			taken = true
			c.take(p)
		}
	}
	if taken {
		c.heard = now
	}
	return taken, api.OK
}

// open: the packet that bytes begin with, by the keys that hold. Nothing is changed by that.
func (c *Conn) open(b []byte) (opened, bool) {
	var k api.Keys // while there are none nothing is opened
	switch long := b[0]&longBit != 0; {
	case long && c.bound:
		k = c.long.in
	case long:
		k = c.longKeys(!c.client, nameOf(b))
	case c.keyed:
		k = c.short.in
	}
	h, payload, size, e := packet.Open(b, 0, k, c.came.greatest())
	return opened{h, payload, size}, e == api.OK
}

// nameOf: who sends a long packet, as far as its bytes tell it. That it's so only opening it shows.
func nameOf(b []byte) []byte {
	if len(b) <= nameAt {
		return nil
	}
	rest := b[nameAt+1:]
	return rest[:min(int(b[nameAt]), len(rest))]
}

// take: a packet that was not opened ahead. One that is not long proves that who sealed it knows what both share: its keys hang on that, and on this end's nonce.
func (c *Conn) take(p opened) {
	if p.header.Long {
		c.bind(p.header.From)
	} else {
		c.ready = true
	}
	if int64(p.header.Number) > c.came.greatest() {
		c.cameAt = c.now
	}
	c.came = c.came.with(p.header.Number)
	l, e := frame.Get(p.payload)
	switch {
	case c.over:
		c.hearsLate(l)
	case e != api.OK:
		c.misdeed(e)
	default:
		c.news = true
		c.owes = c.owes || slices.ContainsFunc(l, frame.Eliciting)
		c.treat(l, p.header.Long)
	}
}

// hearsLate: what comes behind the end. Who does not say that it ended too, does not know: it's told again.
func (c *Conn) hearsLate(l []api.Frame) {
	if slices.ContainsFunc(l, func(f api.Frame) bool { return f.Kind == api.FrClose }) {
		c.farewell = api.Frame{}
	}
	c.tells = c.farewell.Kind == api.FrClose
}

// treat: the frames of a packet, one behind the other, as long as they may be.
func (c *Conn) treat(l []api.Frame, long bool) {
	all := treatments()
	for _, f := range l {
		t := all[f.Kind]
		if long && !t.long || !long && !t.short {
			c.misdeed(api.ErrForm)
			return
		}
		if e := t.do(c, f); e != api.OK {
			c.misdeed(e)
			return
		}
		if c.over {
			return
		}
	}
}

// passesOver: a frame that says nothing.
func (c *Conn) passesOver(api.Frame) api.Errno { return api.OK }

// isClosed: by the other end.
func (c *Conn) isClosed(f api.Frame) api.Errno {
	c.end(f.Code)
	return api.OK
}

// takesBytes: of a stream.
func (c *Conn) takesBytes(f api.Frame) api.Errno {
	s, e := c.told(f.Stream)
	if e != api.OK {
		return e
	}
	if s.in == nil {
		return api.ErrGone
	}
	each, e := flow.Came(s.in.credit, f.Offset+uint64(len(f.Data)))
	if e != api.OK {
		return e
	}
	all, e := flow.Spend(c.come, each.Used-s.in.credit.Used)
	if e != api.OK {
		return e
	}
	if e := s.in.pieces.Put(f.Offset, f.Data, f.Fin); e != api.OK {
		return e
	}
	s.in.credit, c.come = each, all
	return api.OK
}

// maySend: so many bytes of all streams.
func (c *Conn) maySend(f api.Frame) api.Errno {
	raised, e := flow.Raise(c.credit, f.Limit)
	if e != api.OK {
		return e
	}
	c.credit = raised
	return api.OK
}

// maySendOver: so many bytes of a stream.
func (c *Conn) maySendOver(f api.Frame) api.Errno {
	s, e := c.told(f.Stream)
	if e != api.OK {
		return e
	}
	if s.out == nil {
		return api.ErrGone
	}
	return s.out.raise(f.Limit)
}

// mayOpen: so many streams.
func (c *Conn) mayOpen(f api.Frame) api.Errno {
	ways := waysOf(f.Fin)
	c.mine.lets[ways] = max(c.mine.lets[ways], min(f.Limit, api.MaxStreams))
	return api.OK
}
