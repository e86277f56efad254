package conn

import (
	"slices"

	"mailcoach/api"
	"mailcoach/flow"
	"mailcoach/frame"
	"mailcoach/packet"
)

// mostSent: datagrams that are sent at once.
const mostSent = 64

// Bytes of a packet that is not long: ahead of its number; of the number: as many as there may be, so that it's known whatever many others came ahead of it; of the tag; of frames, as many as there is room for.
const (
	headSize   = 1
	numberSize = 4
	tagSize    = 16
	mostFrames = api.MaxPacket - headSize - numberSize - tagSize
)

// Send: the datagrams to be sent now. (P18.4)
func (c *Conn) Send(now uint64) ([][]byte, api.Errno) {
	switch {
	case !c.there():
		return nil, api.ErrNil
	case !c.mayBe(now):
		return nil, api.ErrArg
	}
	c.goOn(now)
	c.look()
	var l [][]byte
	for len(l) < mostSent {
		b := c.datagram()
		if b == nil {
			break
		}
		l = append(l, b)
	}
	return l, api.OK
}

// When: the time at which Send should be asked again; false: none. (P18.4)
func (c *Conn) When() (uint64, bool) {
	switch {
	case !c.there():
		return 0, false
	case c.hasToSend():
		return c.now, true
	case c.over:
		return 0, false
	}
	at, some := c.ledger.When()
	if !some || at > api.MaxTime {
		return 0, false
	}
	return max(at, c.now), true
}

// hasToSend: would there be a datagram now, if no time goes by?
func (c *Conn) hasToSend() bool {
	switch {
	case c.over:
		return c.tells && c.reaches()
	case c.owes && c.keyed:
		return true
	case !c.mayAsk():
		return false
	case len(c.greet) > 0 || len(c.queue) > 0:
		return true
	}
	for s := range c.channels() {
		if s.out != nil && s.out.waits(flow.Left(c.credit)) {
			return true
		}
	}
	return false
}

// reaches: is there a way to the other end? A server knows of none till a client's packet came.
func (c *Conn) reaches() bool { return c.client || c.bound }

// datagram: the next one, of one packet; nil, if there is none.
func (c *Conn) datagram() []byte {
	switch {
	case c.over:
		return c.lastWords()
	case len(c.greet) > 0 && c.mayAsk():
		l := c.greet
		c.greet = nil
		return c.packet(l, true)
	case c.keyed:
		if l := c.gather(mostFrames); len(l) > 0 {
			return c.packet(l, false)
		}
	}
	return nil
}

// lastWords: what the other end is told of the end. As long as it may not know the keys of other packets that goes in a long one.
func (c *Conn) lastWords() []byte {
	if !c.tells || !c.reaches() {
		return nil
	}
	c.tells = false
	return c.packet([]api.Frame{c.farewell}, !c.ready)
}

// gather: the frames of the next packet that is not long, of at most so many bytes.
func (c *Conn) gather(room int) []api.Frame {
	ack := api.Frame{Kind: api.FrAck, Ranges: c.came.told(), Limit: c.now - c.cameAt}
	if c.owes {
		room -= bytesOf(ack)
	}
	var l []api.Frame
	put := func(f api.Frame) {
		l = append(l, f)
		room -= bytesOf(f)
	}
gather:
	for c.mayAsk() {
		if len(c.queue) > 0 {
			if bytesOf(c.queue[0]) > room {
				break gather
			}
			put(c.queue[0])
			c.queue = c.queue[1:]
			continue gather
		}
		for s := range c.channels() {
			if s.out == nil || !s.out.waits(flow.Left(c.credit)) {
				continue
			}
			f, fits := c.next(s.out, room)
			if !fits {
				break gather
			}
			put(f)
			continue gather
		}
		break gather
	}
	if c.probes && len(l) == 0 {
		put(api.Frame{Kind: api.FrPing})
	}
	switch {
	case c.owes:
		l = append(l, ack)
	case c.news && len(l) > 0 && bytesOf(ack) <= room: // nobody asks for it, but it helps the other end to forget what it sent
		l = append(l, ack)
	default:
		return l
	}
	c.owes, c.news = false, false
	return l
}

// next: the next frame of what goes out over a stream, if its bytes fit.
func (c *Conn) next(o *outlet, room int) (api.Frame, bool) {
	ahead := o.sender.Fresh()
	f, fits := o.take(room, flow.Left(c.credit))
	if spent, e := flow.Spend(c.credit, o.sender.Fresh()-ahead); e == api.OK {
		c.credit = spent
	}
	return f, fits
}

// packet: of frames, sealed; it's on its way then. nil, if it can't be: the frames wait on.
func (c *Conn) packet(l []api.Frame, long bool) []byte {
	b, e := c.sealed(l, long)
	asks := slices.ContainsFunc(l, frame.Eliciting)
	if e == api.OK {
		e = c.ledger.Sent(c.number, len(b), c.now, asks)
	}
	if e != api.OK {
		c.again(l)
		return nil
	}
	if asks {
		c.sent[c.number] = l
		c.probes = false
	}
	c.number++
	return b
}

// sealed: frames as the next packet's bytes.
func (c *Conn) sealed(l []api.Frame, long bool) ([]byte, api.Errno) {
	payload, e := frame.Put(l)
	if e != api.OK {
		return nil, e
	}
	if long {
		return packet.Seal(api.Header{Long: true, From: c.name, Number: c.number}, numberSize, payload, c.long.out)
	}
	return packet.Seal(api.Header{Number: c.number}, numberSize, payload, c.short.out)
}

// bytesOf: how many bytes a frame has.
func bytesOf(f api.Frame) int {
	b, _ := frame.Put([]api.Frame{f})
	return len(b)
}
