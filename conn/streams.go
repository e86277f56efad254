package conn

import (
	"iter"

	"mailcoach/api"
	"mailcoach/flow"
	"mailcoach/pieces"
	"mailcoach/stream"
	"mailcoach/varint"
)

// family: the streams that one of both ends opened; and how many the other one lets it open. Each by waysOf.
type family struct {
	streams [2][]*channel
	lets    [2]uint64
}

// channel is an end of a stream.
type channel struct {
	id  uint64
	out *outlet // nil, if this end may not write into it
	in  *inlet  // nil, if this end may not read from it
}

// outlet: what goes out over a stream.
type outlet struct {
	id      uint64
	sender  *stream.Sender
	credit  uint64
	written uint64 // how many bytes were
	last    bool   // whether the end was written
	lastOut bool   // whether it was sent
	told    bool   // whether the other end was told of the stream at all
}

// inlet: what comes in over a stream.
type inlet struct {
	pieces *pieces.Pieces
	credit flow.Credit
	over   bool // whether all of it was read
}

// waysOf: where in a family the streams of two ways stand, and those of one.
func waysOf(oneWay bool) int {
	if oneWay {
		return 1
	}
	return 0
}

// letsOf: how many streams an end lets the other one open, at first.
func letsOf(limits [4]uint64) (lets [2]uint64) {
	for ways := range lets {
		lets[ways] = min(limits[limitStreams+ways], api.MaxStreams)
	}
	return lets
}

// familyOf: the streams among which one of that number stands.
func (c *Conn) familyOf(id uint64) *family {
	if server, _, _ := flow.Stream(id); server == c.client {
		return &c.others
	}
	return &c.mine
}

// find: the stream of a number; nil, if there is none.
func (c *Conn) find(id uint64) *channel {
	_, oneWay, n := flow.Stream(id)
	l := c.familyOf(id).streams[waysOf(oneWay)]
	if n >= uint64(len(l)) {
		return nil
	}
	return l[n]
}

// channels: all streams that there are, by rising numbers.
func (c *Conn) channels() iter.Seq[*channel] {
	const kinds = 4
	return func(yield func(*channel) bool) {
		for id := range uint64(kinds * api.MaxStreams) {
			if s := c.find(id); s != nil && !yield(s) {
				return
			}
		}
	}
}

// add: the next stream of a family.
func (c *Conn) add(f *family, id uint64) {
	_, oneWay, _ := flow.Stream(id)
	own := f == &c.mine
	s := &channel{id: id}
	if own || !oneWay {
		s.out = newOutlet(id, c.peerLimits[limitEach], !own)
	}
	if !own || !oneWay {
		s.in = newInlet(c.limits[limitEach])
	}
	ways := waysOf(oneWay)
	f.streams[ways] = append(f.streams[ways], s)
}

// told: the stream of which the other end tells. If that one opened it, it opened those of lower numbers ahead of it.
func (c *Conn) told(id uint64) (*channel, api.Errno) {
	if f := c.familyOf(id); f == &c.others {
		server, oneWay, n := flow.Stream(id)
		ways := waysOf(oneWay)
		if n >= f.lets[ways] {
			return nil, api.ErrLimit
		}
		for next := uint64(len(f.streams[ways])); next <= n; next++ {
			lower, e := flow.ID(server, oneWay, next)
			if e != api.OK {
				return nil, e
			}
			c.add(f, lower)
		}
	}
	s := c.find(id)
	if s == nil {
		return nil, api.ErrGone
	}
	return s, api.OK
}

// wasRead: bytes of a stream, perhaps up to its end. What was read makes room for more, of which the other end is told.
func (c *Conn) wasRead(s *channel, count uint64, last bool) {
	c.read += count
	if limit, worth := flow.Offer(c.come, c.read, c.limits[limitAll]); worth {
		c.come.Limit = limit
		c.queue = append(c.queue, api.Frame{Kind: api.FrMaxData, Limit: limit})
	}
	if _, known := s.in.pieces.End(); !known {
		if limit, worth := flow.Offer(s.in.credit, s.in.pieces.Read(), c.limits[limitEach]); worth {
			s.in.credit.Limit = limit
			c.queue = append(c.queue, api.Frame{Kind: api.FrMaxStreamData, Stream: s.id, Limit: limit})
		}
	}
	if last && !s.in.over {
		s.in.over = true
		c.isOver(s.id)
	}
}

// isOver: all of a stream was read. If the other end opened it, it may open one more.
func (c *Conn) isOver(id uint64) {
	f := c.familyOf(id)
	_, oneWay, _ := flow.Stream(id)
	ways := waysOf(oneWay)
	if f != &c.others || f.lets[ways] == api.MaxStreams {
		return
	}
	f.lets[ways]++
	c.queue = append(c.queue, api.Frame{Kind: api.FrMaxStreams, Limit: f.lets[ways], Fin: oneWay})
}

// newInlet: of a stream of which nothing came; room: how many bytes may come that were not read.
func newInlet(room uint64) *inlet {
	in := &inlet{credit: flow.Credit{Limit: room}}
	in.pieces, _ = pieces.New(int(min(room, api.MaxBytes)))
	return in
}

// newOutlet: of a stream into which nothing was written; told: whether the other end opened it, and so knows of it.
func newOutlet(id, credit uint64, told bool) *outlet {
	o := &outlet{id: id, credit: credit, told: told}
	o.sender, _ = stream.NewSender(id, credit)
	return o
}

// write: bytes are to be sent; last: they are the end.
func (o *outlet) write(b []byte, last bool) api.Errno {
	if e := o.sender.Write(b, last); e != api.OK {
		return e
	}
	o.written += uint64(len(b))
	o.last = last
	return api.OK
}

// raise: there is so much credit.
func (o *outlet) raise(credit uint64) api.Errno {
	o.credit = max(o.credit, credit)
	return o.sender.Raise(credit)
}

// waits: is there anything to be sent, where so many bytes of all streams still may be?
func (o *outlet) waits(left uint64) bool {
	sent := o.sender.Fresh()
	return !o.told || o.last && !o.lastOut && sent == o.written || min(o.written, o.credit) > sent && left > 0
}

// take: the next frame, if its bytes fit into so much room; so many bytes of all streams still may be sent. What is lost is not among it: that was taken as soon as it was known.
func (o *outlet) take(room int, left uint64) (api.Frame, bool) {
	n := room - o.beside(room)
	if n < 1 {
		return api.Frame{}, false
	}
	f, some := o.sender.Take(n, left)
	if !some && !o.told {
		f, some = api.Frame{Kind: api.FrStream, Stream: o.id}, true
	}
	o.told = o.told || some
	o.lastOut = o.lastOut || f.Fin
	return f, some
}

// beside: how many bytes the next frame has beside those of the stream, if it fills so much room: its type, the stream's number, the place (but 0, which isn't told), how many bytes there are.
func (o *outlet) beside(room int) int {
	size := 1 + sizeOf(o.id)
	if sent := o.sender.Fresh(); sent > 0 {
		size += sizeOf(sent)
	}
	return size + sizeOf(uint64(max(0, room-size-1)))
}

// sizeOf: how many bytes a number has.
func sizeOf(n uint64) int {
	b, _ := varint.Put(n)
	return len(b)
}

// lost: a frame did not come in there; the frames that are to be sent for it, none with more than so many bytes of the stream.
func (o *outlet) lost(f api.Frame, most int) []api.Frame {
	if o.sender.Lost(f) != api.OK {
		return nil
	}
	var again []api.Frame
	for {
		f, some := o.sender.Take(most, 0)
		if !some {
			break
		}
		o.lastOut = o.lastOut || f.Fin
		again = append(again, f)
	}
	if o.sender.Fresh() == 0 && !o.lastOut { // it told of the stream alone
		o.told = false
	}
	return again
}
