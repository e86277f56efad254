package conn_test

import (
	"math"
	"math/rand/v2"
	"slices"
	"testing"

	"mailcoach/api"
	"mailcoach/conn"
)

// P18.1 to P18.6: the chapter's words once more, for two ends between which all comes as soon as it is told to: what each call answers is held against them.

// plainStream is a stream: of each direction, by who writes.
type plainStream struct {
	written, came [2][]byte // came: what was written when all came last
	last, ended   [2]bool   // likewise of the end
	read          [2]int    // how much of it was, at the other end
	over          [2]bool   // whether the end was told there
}

// plain: both ends, as the chapter has them.
type plain struct {
	t       *testing.T
	ends    [2]*conn.Conn
	limits  [2][4]uint64
	now     uint64
	ready   bool
	over    [2]bool
	code    [2]uint64
	streams map[uint64]*plainStream
	known   map[uint64]bool // of those the other end was told
	opened  [2][2]uint64    // by who opened them, and of how many ways
	lets    [2][2]uint64    // how many each may open, as far as it was told
	overs   [2][2]uint64    // how many of these are over
}

func newPlain(t *testing.T, r *rand.Rand) *plain {
	p := &plain{t: t, limits: someLimits(r), streams: map[uint64]*plainStream{}, known: map[uint64]bool{}}
	for i := range p.ends {
		for j := range 2 {
			if r.IntN(4) == 0 {
				p.limits[i][2+j] = 0
			}
		}
		c := config(i == 0, p.limits[i])
		p.ends[i] = made(t, c, 0)
	}
	return p
}

func waysOf(oneWay bool) int {
	if oneWay {
		return 1
	}
	return 0
}

// mayWrite, mayRead: may the end i, if there is such a stream for it?
func (p *plain) mayWrite(i int, id uint64) bool {
	own := id&1 == uint64(i)
	return p.streams[id] != nil && (own || id&2 == 0 && p.known[id])
}

func (p *plain) mayRead(i int, id uint64) bool {
	own := id&1 == uint64(i)
	return p.streams[id] != nil && (own && id&2 == 0 || !own && p.known[id])
}

// comes: all that both send, if neither has ended; else what tells of that.
func (p *plain) comes() {
	for range 10000 {
		a, b := sent(p.t, p.ends[0], p.now), sent(p.t, p.ends[1], p.now)
		for i, l := range [2][][]byte{b, a} {
			for _, x := range l {
				if _, e := p.ends[i].Come(x, p.now); e != api.OK {
					p.t.Fatal("Come:", e)
				}
			}
		}
		if len(a)+len(b) == 0 {
			break
		}
	}
	for i := range p.ends {
		if p.over[1-i] && !p.over[i] {
			p.over[i], p.code[i] = true, p.code[1-i]
			return
		}
	}
	if p.over[0] {
		return
	}
	p.ready = true
	for id, s := range p.streams {
		p.known[id] = true
		for i := range 2 {
			s.came[i], s.ended[i] = s.written[i], s.last[i]
		}
	}
	for i := range 2 {
		for ways := range 2 {
			p.lets[i][ways] = min(min(p.limits[1-i][2+ways], api.MaxStreams)+p.overs[i][ways], api.MaxStreams)
		}
	}
}

func (p *plain) opens(i int, oneWay bool) {
	id, e := p.ends[i].Open(oneWay)
	ways := waysOf(oneWay)
	n := p.opened[i][ways]
	want, wantID := api.OK, 4*n+2*uint64(ways)+uint64(i)
	switch {
	case p.over[i]:
		want = api.ErrEnd
	case !p.ready:
		want = api.ErrState
	case n >= p.lets[i][ways]:
		want = api.ErrLimit
	}
	if want != api.OK {
		wantID = 0
	} else {
		p.opened[i][ways]++
		p.streams[wantID] = &plainStream{}
	}
	if e != want || id != wantID {
		p.t.Fatalf("end %d: Open(%v): %d, %d; not %d, %d", i, oneWay, id, e, wantID, want)
	}
}

func (p *plain) writes(i int, id uint64, b []byte, last bool) {
	s := p.streams[id]
	want := api.OK
	switch {
	case p.over[i]:
		want = api.ErrEnd
	case !p.mayWrite(i, id):
		want = api.ErrGone
	case s.last[i]:
		want = api.ErrState
	case len(s.written[i])+len(b) > api.MaxBytes:
		want = api.ErrLimit
	default:
		s.written[i] = append(s.written[i], b...)
		s.last[i] = last
	}
	if e := p.ends[i].Write(id, b, last); e != want {
		p.t.Fatalf("end %d: Write(%d, %d bytes): %d, not %d", i, id, len(b), e, want)
	}
}

// reads: where the limits are great, all that came, else a part of it, that is no more than they let.
func (p *plain) reads(i int, id uint64) {
	b, last, e := p.ends[i].Read(id)
	if !p.mayRead(i, id) {
		if e != api.ErrGone || len(b) > 0 || last {
			p.t.Fatalf("end %d: Read(%d): %d bytes, %v, %d", i, id, len(b), last, e)
		}
		return
	}
	s, from := p.streams[id], 1-i
	rest := s.came[from][s.read[from]:]
	if e != api.OK || len(b) > len(rest) || !slices.Equal(b, rest[:len(b)]) || uint64(len(b)) > min(p.limits[i][0], p.limits[i][1]) {
		p.t.Fatalf("end %d: Read(%d): %d bytes, %d", i, id, len(b), e)
	}
	if min(p.limits[i][0], p.limits[i][1]) == api.MaxNumber && len(b) != len(rest) {
		p.t.Fatalf("end %d: Read(%d): %d bytes, not %d", i, id, len(b), len(rest))
	}
	s.read[from] += len(b)
	if last != (s.ended[from] && s.read[from] == len(s.came[from])) && (last || len(b) == len(rest) && len(rest) > 0) {
		p.t.Fatalf("end %d: Read(%d): the end: %v", i, id, last)
	}
	if last && !s.over[from] {
		s.over[from] = true
		if id&1 == uint64(from) {
			p.overs[from][id>>1&1]++
		}
	}
}

// stands: what is told of an end without a change.
func (p *plain) stands(i int) {
	c := p.ends[i]
	code, over := c.Ended()
	if over != p.over[i] || code != p.code[i] {
		p.t.Fatalf("end %d: Ended: %d, %v; not %d, %v", i, code, over, p.code[i], p.over[i])
	}
	if !p.over[i] && c.Ready() != p.ready {
		p.t.Fatalf("end %d: Ready: %v", i, c.Ready())
	}
	var ids []uint64
	for id := range p.known {
		if id&1 != uint64(i) {
			ids = append(ids, id)
		}
	}
	slices.Sort(ids)
	if l := c.Streams(); !slices.Equal(l, ids) {
		p.t.Fatalf("end %d: Streams: %v, not %v", i, l, ids)
	}
}

// turn: one call, or what comes.
func (p *plain) turn(r *rand.Rand) {
	i := r.IntN(2)
	id := uint64(r.IntN(30))
	if r.IntN(40) == 0 {
		id = r.Uint64()
	}
	switch r.IntN(12) {
	case 0, 1:
		p.opens(i, r.IntN(2) == 0)
	case 2, 3, 4:
		p.writes(i, id, []byte(some(r.IntN(1<<r.IntN(12)))), r.IntN(4) == 0)
	case 5, 6, 7:
		p.reads(i, id)
	case 8, 9:
		p.comes()
	case 10:
		comes(p.t, p.ends[i], []byte(some(r.IntN(50))), p.now, false)
		p.now += uint64(r.IntN(3))
	case 11:
		code := []uint64{0, 5, api.MaxNumber, api.MaxNumber + 1, math.MaxUint64}[r.IntN(5)]
		if code <= api.MaxNumber && r.IntN(20) > 0 {
			return
		}
		want := api.OK
		switch {
		case code > api.MaxNumber:
			want = api.ErrArg
		case p.over[i]:
			want = api.ErrEnd
		default:
			p.over[i], p.code[i] = true, code
		}
		if e := p.ends[i].Close(code); e != want {
			p.t.Fatalf("end %d: Close(%d): %d, not %d", i, code, e, want)
		}
	}
}

// P18.1 to P18.6: many rows of calls.
func TestPlain(t *testing.T) {
	for seed := range uint64(400) {
		r := rand.New(rand.NewPCG(seed, 81))
		p := newPlain(t, r)
		for range r.IntN(400) {
			p.turn(r)
			p.stands(0)
			p.stands(1)
		}
	}
}
