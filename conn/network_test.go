package conn_test

import (
	"bytes"
	"maps"
	"math/rand/v2"
	"slices"
	"testing"

	"mailcoach/api"
	"mailcoach/conn"
)

// P18.7, P18.8: two ends and a network between, drawn by a row of numbers, that loses datagrams, doubles them, turns them about, and, if it may, cuts and changes them too.

// carried is what one end wrote into a stream, and what the other one read of it.
type carried struct {
	written, read []byte
	last, told    bool // whether the end was written, and was told
}

// network between two ends.
type network struct {
	t       *testing.T
	r       *rand.Rand
	ends    [2]*conn.Conn
	now     uint64
	way     [2][][]byte // what is on its way to each end
	ever    [2]map[string]bool
	streams [2]map[uint64]*carried // by who wrote
	left    [2]int                 // how many bytes each may still write
	harm    bool
}

func newNetwork(t *testing.T, r *rand.Rand, limits [2][4]uint64, idle uint64, harm bool) *network {
	t.Helper()
	n := &network{t: t, r: r, harm: harm, now: uint64(r.IntN(3)) * 1000}
	for i := range n.ends {
		n.ends[i] = made(t, conn.Config{Client: i == 0, Shared: []byte("shared"), Nonce: [32]byte{byte(r.IntN(2))}, Limits: limits[i], Idle: idle}, n.now)
		n.streams[i] = map[uint64]*carried{}
		n.ever[i] = map[string]bool{}
		n.left[i] = 32768
	}
	return n
}

// opens: the end i opens a stream, if it may.
func (n *network) opens(i int) {
	id, e := n.ends[i].Open(n.r.IntN(2) == 0)
	if e == api.OK {
		n.streams[i][id] = &carried{}
		if id&2 == 0 {
			n.streams[1-i][id] = &carried{}
		}
	}
}

// writes: the end i writes into some stream.
func (n *network) writes(i int) {
	ids := slices.Sorted(maps.Keys(n.streams[i]))
	if len(ids) == 0 {
		return
	}
	id := ids[n.r.IntN(len(ids))]
	s := n.streams[i][id]
	b := make([]byte, min(n.left[i], n.r.IntN(1<<n.r.IntN(13))))
	for j := range b {
		b[j] = byte(n.r.Uint32())
	}
	last := n.r.IntN(4) == 0
	switch e := n.ends[i].Write(id, b, last); {
	case e == api.OK:
		s.written = append(s.written, b...)
		s.last = last
		n.left[i] -= len(b)
	case s.last && e == api.ErrState, e == api.ErrGone && id&1 != uint64(i): // that the other one opened it may not be known yet
	default:
		n.t.Fatalf("end %d: Write(%d): %d", i, id, e)
	}
}

// reads: the end i reads all that it may.
func (n *network) reads(i int) {
	n.t.Helper()
	ids := n.ends[i].Streams()
	if !slices.IsSorted(ids) {
		n.t.Fatal("Streams do not rise:", ids)
	}
	for id := range n.streams[i] {
		if id&1 == uint64(i) && id&2 == 0 {
			ids = append(ids, id)
		}
	}
	for _, id := range ids {
		s := n.streams[1-i][id]
		if s == nil {
			n.t.Fatalf("end %d: nobody opened the stream %d", i, id)
		}
		b, last, e := n.ends[i].Read(id)
		if e != api.OK {
			n.t.Fatalf("end %d: Read(%d): %d", i, id, e)
		}
		if s.told && (len(b) > 0 || !last) {
			n.t.Fatalf("end %d: Read(%d) behind the end: %d bytes, %v", i, id, len(b), last)
		}
		s.read = append(s.read, b...)
		s.told = last
		if !bytes.HasPrefix(s.written, s.read) || last && (!s.last || len(s.read) != len(s.written)) {
			n.t.Fatalf("end %d: the stream %d: %d bytes were read, %d written; the end: %v, %v", i, id, len(s.read), len(s.written), last, s.last)
		}
	}
}

// sends: what the end i sends is on its way.
func (n *network) sends(i int) int {
	n.t.Helper()
	l := sent(n.t, n.ends[i], n.now)
	for _, b := range l {
		if n.ever[i][string(b)] {
			n.t.Fatal("sent twice")
		}
		n.ever[i][string(b)] = true
	}
	n.way[1-i] = append(n.way[1-i], l...)
	return len(l)
}

// comes: a datagram comes to the end i.
func (n *network) comes(i int, b []byte) bool {
	n.t.Helper()
	taken, e := n.ends[i].Come(b, n.now)
	if e != api.OK {
		n.t.Fatal("Come:", e)
	}
	if taken && !n.ever[1-i][string(b)] && !n.joined(i, b) {
		n.t.Fatalf("end %d took what nobody sent: %x", i, b)
	}
	if again, _ := n.ends[i].Come(b, n.now); again {
		n.t.Fatal("taken twice")
	}
	return taken
}

// joined: does it begin with a whole long packet that was sent?
func (n *network) joined(i int, b []byte) bool {
	for was := range n.ever[1-i] {
		if bytes.HasPrefix(b, []byte(was)) && was[0]&0x80 != 0 {
			return true
		}
	}
	return false
}

// turns: something happens to some datagram that is on its way.
func (n *network) turns() {
	n.t.Helper()
	i := n.r.IntN(2)
	if len(n.way[i]) == 0 {
		return
	}
	at := n.r.IntN(len(n.way[i]))
	if n.r.IntN(3) > 0 {
		at = 0
	}
	b := n.way[i][at]
	out := func() { n.way[i] = slices.Delete(n.way[i], at, at+1) }
	switch n.r.IntN(10) {
	case 0, 1, 2, 3, 4:
		out()
		n.comes(i, b)
	case 5, 6:
		out()
	case 7:
		n.comes(i, b)
	case 8:
		n.way[i] = append(n.way[i], b)
		out()
	case 9:
		if n.harm {
			n.comes(i, harmed(n.r, b))
		}
	}
}

// harmed: bytes that were cut or changed.
func harmed(r *rand.Rand, b []byte) []byte {
	b = bytes.Clone(b)
	switch r.IntN(4) {
	case 0:
		return b[:r.IntN(len(b))]
	case 1:
		return append(b, byte(r.Uint32()))
	case 2:
		return b[1+r.IntN(len(b)):]
	}
	b[r.IntN(len(b))] ^= byte(1 << r.IntN(8))
	return b
}

// storm: many things happen, for at most so much time.
func (n *network) storm(steps int, time uint64) {
	n.t.Helper()
	for range steps {
		switch i := n.r.IntN(2); n.r.IntN(16) {
		case 0:
			n.opens(i)
		case 1, 2:
			n.writes(i)
		case 3, 4:
			n.reads(i)
		case 5, 6, 7:
			n.sends(i)
		case 8:
			step := min(time, uint64(n.r.IntN(1<<n.r.IntN(12))))
			n.now += step
			time -= step
		default:
			n.turns()
		}
	}
}

// calm: from now on all comes. How many rounds it takes till nothing is left to be done.
func (n *network) calm(rounds int) int {
	n.t.Helper()
	for round := range rounds {
		any := 0
		for i := range n.ends {
			any += n.sends(i)
		}
		for i := range n.ends {
			for _, b := range n.way[i] {
				n.comes(i, b)
			}
			n.way[i] = nil
		}
		for i := range n.ends {
			n.reads(i)
		}
		if any > 0 {
			continue
		}
		at, some := n.first()
		if !some {
			return round
		}
		n.now = max(n.now, at) // what was just read may have made something to be sent
	}
	return rounds
}

// first When of both.
func (n *network) first() (uint64, bool) {
	one, some := n.ends[0].When()
	two, too := n.ends[1].When()
	if some && too {
		return min(one, two), true
	}
	return max(one, two), some || too
}

// whole: was all read that was written?
func (n *network) whole() {
	n.t.Helper()
	for i, c := range n.ends {
		if !c.Ready() {
			n.t.Errorf("end %d is not ready", i)
		}
		if code, over := c.Ended(); over {
			n.t.Errorf("end %d has ended: %d", i, code)
		}
		for id, s := range n.streams[i] {
			if !bytes.Equal(s.read, s.written) || s.last != s.told {
				n.t.Errorf("end %d, stream %d: %d of %d bytes were read; the end: %v, %v", i, id, len(s.read), len(s.written), s.last, s.told)
			}
		}
	}
}

func someLimits(r *rand.Rand) (l [2][4]uint64) {
	for i := range l {
		switch r.IntN(3) {
		case 0:
			l[i] = [4]uint64{1000, 1000, 1, 1}
		case 1:
			l[i] = [4]uint64{api.MaxNumber, api.MaxNumber, api.MaxNumber, api.MaxNumber}
		default:
			l[i] = [4]uint64{1000 + uint64(r.IntN(20000)), 1000 + uint64(r.IntN(5000)), 1 + uint64(r.IntN(10)), 1 + uint64(r.IntN(10))}
		}
	}
	return l
}

// P18.7, P18.8: what comes is what was sent; and in the calm all of it comes.
func TestNetworks(t *testing.T) {
	most := 0
	for seed := range uint64(300) {
		r := rand.New(rand.NewPCG(seed, 18))
		harm := r.IntN(2) == 0
		n := newNetwork(t, r, someLimits(r), 100001, harm)
		n.storm(r.IntN(1000), 19999)
		most = max(most, n.calm(4000))
		n.whole()
		for range 3 {
			n.opens(0)
			n.opens(1)
			n.writes(0)
			n.writes(1)
			n.calm(4000)
		}
		n.whole()
		if t.Failed() {
			t.Fatal("seed", seed)
		}
	}
	t.Log("rounds:", most)
}

// P18.7, P18.8: with small limits and great ones, greetings, answers and room for more being among what is lost; all that may be written.
func TestStorms(t *testing.T) {
	for i, limits := range [][4]uint64{{1000, 1000, 1, 1}, great, {1000, api.MaxNumber, 64, 1}, {api.MaxNumber, 1000, 1, 64}} {
		for seed := range uint64(6) {
			r := rand.New(rand.NewPCG(seed, uint64(i)))
			n := newNetwork(t, r, [2][4]uint64{limits, limits}, 100001, false)
			n.storm(4000, 19999)
			for i := range n.ends { // of as many bytes as 65536 together
				n.opens(i)
				for id, s := range n.streams[i] {
					if !s.last && n.ends[i].Write(id, make([]byte, n.left[i]), true) == api.OK {
						s.written, s.last = append(s.written, make([]byte, n.left[i])...), true
						n.left[i] = 0
					}
				}
			}
			n.calm(4000)
			n.whole()
			if t.Failed() {
				t.Fatal("limits", limits, "seed", seed)
			}
		}
	}
}

// P18.8: what one time takes very long is not taken for the end: a greeting and answers that come as late as may be.
func TestLate(t *testing.T) {
	for _, late := range []uint64{1, 1000, 10000, 19999} {
		for _, lose := range []int{0, 1, 2, 3} {
			n := newNetwork(t, rand.New(rand.NewPCG(1, 1)), [2][4]uint64{{1000, 1000, 1, 1}, {1000, 1000, 1, 1}}, 100001, false)
			first := n.now
			for round := range 4 {
				for i := range n.ends {
					if round == 1 || round == 2 {
						n.opens(i)
						n.writes(i)
					}
					n.sends(i)
					if round == lose {
						n.way[1-i] = nil
					}
				}
				if round == 1 {
					n.now = first + late
				}
				for i := range n.ends {
					for _, b := range n.way[i] {
						n.comes(i, b)
					}
					n.way[i] = nil
				}
			}
			n.calm(4000)
			n.whole()
		}
	}
}

// P18.7, P18.8: networks that nobody thought of.
func FuzzNetwork(f *testing.F) {
	for seed := range uint64(4) {
		f.Add(seed, uint16(300*seed), uint16(1000*seed), seed%2 == 0)
	}
	f.Fuzz(func(t *testing.T, seed uint64, steps, time uint16, harm bool) {
		r := rand.New(rand.NewPCG(seed, 7))
		n := newNetwork(t, r, someLimits(r), 100001, harm)
		n.storm(int(steps)%5000, uint64(time)%20000)
		n.calm(4000)
		n.whole()
	})
}

// P0.4: whatever bytes come in, nothing of it is taken, and each call ends.
func FuzzBytes(f *testing.F) {
	f.Add([]byte{}, true)
	f.Add([]byte{0xc0, 0, 0, 0, 1, 0, 20}, false)
	f.Add([]byte{0x40, 1, 2, 3}, true)
	f.Add(bytes.Repeat([]byte{0xc0, 0, 0, 0, 1, 0, 0, 0, 0x40, 30}, 9), false)
	f.Fuzz(func(t *testing.T, b []byte, ready bool) {
		c, s := made(t, config(true, great), 0), made(t, config(false, great), 0)
		if ready {
			goes(t, c, s, 0)
		}
		for _, end := range []*conn.Conn{c, s} {
			if taken, e := end.Come(b, 0); taken || e != api.OK && len(b) <= 65536 {
				t.Errorf("Come: %v, %d", taken, e)
			}
		}
	})
}
