package conn

import (
	"maps"
	"slices"

	"mailcoach/api"
	"mailcoach/ledger"
)

// mostAgain: bytes of a stream that are sent again in one frame: so many that a packet has room for it. Beside them it has a type of one byte; a stream's number, of two at most, a place, of four, and how many there are, of two.
const mostAgain = mostFrames - 1 - 2 - 4 - 2

// traffic: packets that go, and packets that come.
type traffic struct {
	number uint64 // of the next packet that goes: one row of numbers for both kinds, though each has keys of its own
	ledger *ledger.Ledger
	sent   map[uint64][]api.Frame // of the packets on their way that ask, by their numbers
	greet  []api.Frame            // what is to be sent in long packets
	queue  []api.Frame            // what is to be sent in others, ahead of what goes out over streams
	probes bool                   // whether the next packet that asks goes whether there is room on the way or not

	came   numbers
	cameAt uint64 // the time at which the greatest of them came
	owes   bool   // whether one of them asked since they were answered last
	news   bool   // whether any came since
}

// newTraffic: nothing went, nothing came.
func newTraffic() traffic {
	return traffic{ledger: ledger.New(), sent: map[uint64][]api.Frame{}}
}

// look: what time brought: what is lost is sent again; where no answer came for too long it's asked for one.
func (c *Conn) look() {
	if c.over {
		return
	}
	lost, _ := c.ledger.Lose(c.now)
	c.areLost(lost)
	if at, some := c.ledger.When(); some && at <= c.now {
		c.probe()
	}
}

// probe: the other end is to be asked, by what it may have missed longest, if nothing is to be sent again anyway.
func (c *Conn) probe() {
	c.probes = true
	if len(c.greet) > 0 || len(c.queue) > 0 {
		return
	}
	if waiting := slices.Sorted(maps.Keys(c.sent)); len(waiting) > 0 {
		c.again(c.sent[waiting[0]])
	}
}

// isAnswered: packets came in there.
func (c *Conn) isAnswered(f api.Frame) api.Errno {
	got, lost, e := c.ledger.Answer(f.Ranges, f.Limit, c.now)
	if e != api.OK {
		return e
	}
	for _, number := range got {
		for _, f := range c.sent[number] {
			if s := c.find(f.Stream); f.Kind == api.FrStream && s != nil && s.out != nil {
				s.out.sender.Got(f)
			}
		}
		delete(c.sent, number)
	}
	c.areLost(lost)
	return api.OK
}

// areLost: packets did not come in there.
func (c *Conn) areLost(numbers []uint64) {
	for _, number := range numbers {
		c.again(c.sent[number])
		delete(c.sent, number)
	}
}

// again: frames are to be sent again; of those of streams, what did not come in there otherwise.
func (c *Conn) again(l []api.Frame) {
	for _, f := range l {
		switch f.Kind {
		case api.FrCrypto:
			if !slices.ContainsFunc(c.greet, func(g api.Frame) bool { return g.Offset == f.Offset }) {
				c.greet = append(c.greet, f)
			}
		case api.FrStream:
			if s := c.find(f.Stream); s != nil && s.out != nil {
				c.queue = append(c.queue, s.out.lost(f, mostAgain)...)
			}
		case api.FrMaxData, api.FrMaxStreamData, api.FrMaxStreams:
			c.queue = append(c.queue, f)
		}
	}
}

// mayAsk: may a packet that asks go now?
func (c *Conn) mayAsk() bool {
	return c.probes || c.ledger.Away()+api.MaxPacket <= c.ledger.Room()
}
