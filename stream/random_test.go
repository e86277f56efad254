package stream_test

import (
	"fmt"
	"math"
	"math/rand"
	"slices"
	"sync"
	"testing"

	"mailcoach/api"
	"mailcoach/stream"
)

// moves: calls that may be made of a sender of few bytes.
func moves() []func(*pair) {
	last := func(came bool) func(*pair) {
		return func(c *pair) {
			if n := len(c.frames); n > 0 {
				c.heard(c.frames[n-1], came)
			}
		}
	}
	first := func(came bool) func(*pair) {
		return func(c *pair) {
			if len(c.frames) > 0 {
				c.heard(c.frames[0], came)
			}
		}
	}
	return []func(*pair){
		func(c *pair) { c.write("ab", false) },
		func(c *pair) { c.write("c", true) },
		func(c *pair) { c.write("", true) },
		func(c *pair) { c.take(0, 9) },
		func(c *pair) { c.take(1, 9) },
		func(c *pair) { c.take(9, 9) },
		func(c *pair) { c.take(9, 0) },
		first(true), first(false), last(true), last(false),
		func(c *pair) { c.heard(fr(1, "b", false), true) },
		func(c *pair) { c.heard(fr(2, "", true), false) },
		func(c *pair) { c.reset() },
	}
}

// P16.2 to P16.6: all rows of few calls, behind some beginnings, held against the chapter's words.
func TestAllRows(t *testing.T) {
	all := moves()
	for _, begin := range [][]int{{}, {0, 5}, {0, 4, 4}, {0, 4, 5, 2, 3}, {0, 1, 5}, {0, 1, 4, 5, 10}} {
		var row []int
		var on func(deep int)
		on = func(deep int) {
			c := newPair(t, 4, 3)
			for _, i := range begin {
				all[i](c)
			}
			for _, i := range row {
				all[i](c)
			}
			if deep == 0 {
				c.drain()
				return
			}
			for i := range all {
				row = append(row, i)
				on(deep - 1)
				row = row[:len(row)-1]
			}
		}
		on(4)
	}
}

// mover: makes calls of a pair, told by bytes; beyond the last byte all are 0.
type mover struct {
	*pair
	rest []byte
}

func (m *mover) byte() int {
	if len(m.rest) == 0 {
		return 0
	}
	b := m.rest[0]
	m.rest = m.rest[1:]
	return int(b)
}

// one: of several numbers.
func (m *mover) one(of ...uint64) uint64 { return of[m.byte()%len(of)] }

func (m *mover) writeOne() {
	b := make([]byte, m.byte()%12)
	for i := range b {
		b[i] = "ab"[m.byte()%2] // few, so that wrong places hold the same bytes
	}
	m.write(string(b), m.byte() < 40)
}

func (m *mover) takeOne() {
	n := int(m.one(0, 1, 2, 3, 5, 20, math.MaxInt, 1))
	if m.byte() == 0 {
		n = -1 - n
	}
	m.take(n, m.one(0, 1, 2, 3, 9, math.MaxUint64, 9, 9))
}

// someFrame: mostly one that was told, or a part of what was written; sometimes one that may not be.
func (m *mover) someFrame() api.Frame {
	var f api.Frame
	if n := len(m.frames); n > 0 && m.byte() < 200 {
		f = m.frames[n-1-m.byte()%min(n, 16)]
		f.Data = slices.Clone(f.Data)
	} else {
		size := len(m.p.written)
		from := m.byte() % (size + 2)
		to := min(from+m.byte()%6, size)
		f = api.Frame{Kind: api.FrStream, Stream: m.p.id, Offset: uint64(from), Data: slices.Clone(m.p.written[min(from, to):to]), Fin: m.byte()%2 == 0}
	}
	if m.byte() < 30 {
		m.spoil(&f)
	}
	return f
}

// spoil: makes a frame another one.
func (m *mover) spoil(f *api.Frame) {
	switch m.byte() % 9 {
	case 0:
		f.Kind = api.FrameKind(m.byte())
	case 1:
		f.Stream = m.one(0, 4, 5, f.Stream+1, f.Stream^1<<62)
	case 2:
		f.Offset = m.one(f.Offset+1, f.Offset-1, 0, 1<<62, 1<<63, math.MaxUint64)
	case 3:
		f.Limit = m.one(0, 1, 1<<63)
	case 4:
		f.Code = m.one(0, 1, 1<<63)
	case 5:
		f.Fin = !f.Fin
	case 6:
		f.Data = append(f.Data, 'a')
	case 7:
		f.Data = f.Data[min(1, len(f.Data)):]
	case 8:
		f.Ranges = make([]api.Range, m.byte()%2)
	}
}

// move: as the bytes tell.
func move(t *testing.T, b []byte) {
	m := &mover{rest: b}
	m.pair = newPair(t, m.one(0, 4, 7, api.MaxNumber), m.one(0, 1, 8, 30, api.MaxNumber))
	for len(m.rest) > 0 {
		switch k := m.byte(); {
		case k < 30:
			m.writeOne()
		case k < 120:
			m.takeOne()
		case k < 170:
			m.heard(m.someFrame(), true)
		case k < 235:
			m.heard(m.someFrame(), false)
		case k < 254:
			m.raise(m.one(uint64(m.byte()), m.p.credit+3, m.p.credit+1, m.p.credit, api.MaxNumber+1, math.MaxUint64))
		case m.byte() < 64:
			m.reset()
		}
	}
	m.drain()
}

// P16.1 to P16.6: many runs, held against the chapter's words.
func TestRandom(t *testing.T) {
	for seed := range int64(4000) {
		b := make([]byte, 50+seed/4)
		rand.New(rand.NewSource(seed)).Read(b)
		move(t, b)
	}
}

// P16.1 to P16.6: likewise, of bytes that are looked for.
func FuzzSender(f *testing.F) {
	for seed := range int64(5) {
		b := make([]byte, 200)
		rand.New(rand.NewSource(100 + seed)).Read(b)
		f.Add(b)
	}
	f.Fuzz(func(t *testing.T, b []byte) {
		if len(b) <= 4000 {
			move(t, b)
		}
	})
}

// there: what came in there, by its places, and whether the end did.
type there struct {
	bytes map[uint64]byte
	end   uint64
	ended bool
}

// carry: frames come in there, or are lost, in any order, till nothing is on its way; what is lost is lost less and less often.
func carry(t *testing.T, r *rand.Rand, s *stream.Sender, way []api.Frame, to *there, patience int) []api.Frame {
	t.Helper()
	for range r.Intn(len(way) + 1) {
		i := r.Intn(len(way))
		f := way[i]
		switch {
		case r.Intn(patience+3) < 3:
			loses(t, s, f)
			if r.Intn(3) == 0 { // it comes in after all
				to.come(f)
				got(t, s, f)
			}
		case r.Intn(4) == 0: // twice
			to.come(f)
			got(t, s, f)
			continue
		default:
			to.come(f)
			got(t, s, f)
		}
		way = slices.Delete(way, i, i+1)
	}
	return way
}

func (to *there) come(f api.Frame) {
	for i, b := range f.Data {
		to.bytes[f.Offset+uint64(i)] = b
	}
	if f.Fin {
		to.end, to.ended = f.Offset+uint64(len(f.Data)), true
	}
}

// P16.7: what is told, each frame at its place, is a part of what was written; where each frame comes in, or is lost and taken again, all of it was told, and the sender is done then, not ahead.
func TestAllComes(t *testing.T) {
	for seed := range int64(400) {
		r := rand.New(rand.NewSource(seed))
		s := made(t, uint64(r.Intn(20)))
		to := &there{bytes: map[uint64]byte{}}
		var text []byte
		var way []api.Frame
		parts, credit := r.Intn(6), uint64(0)
		for round := 0; !s.Done(); round++ {
			if round > 10000 {
				t.Fatalf("seed %d: not done", seed)
			}
			if parts >= 0 {
				part := make([]byte, r.Intn(60))
				r.Read(part)
				text = append(text, part...)
				write(t, s, string(part), parts == 0, api.OK)
				parts--
			}
			credit += uint64(r.Intn(30))
			raise(t, s, credit, api.OK)
			for range r.Intn(6) {
				f, ok := s.Take(r.Intn(20), uint64(r.Intn(20)))
				if !ok {
					continue
				}
				if behind := f.Offset + uint64(len(f.Data)); behind > uint64(len(text)) || string(f.Data) != string(text[f.Offset:behind]) || f.Fin != (parts < 0 && behind == uint64(len(text))) {
					t.Fatalf("seed %d: %v is no part", seed, f)
				}
				way = append(way, f)
			}
			way = carry(t, r, s, way, to, round)
			if whole := to.ended && len(to.bytes) == len(text); s.Done() != whole {
				t.Fatalf("seed %d: done %v, whole %v", seed, s.Done(), whole)
			}
		}
		for i, b := range text {
			if c, ok := to.bytes[uint64(i)]; !ok || c != b {
				t.Fatalf("seed %d: the byte %d is %d, %v", seed, i, c, ok)
			}
		}
		if to.end != uint64(len(text)) {
			t.Fatalf("seed %d: the end is %d", seed, to.end)
		}
	}
}

// P16.7: likewise where each frame is lost, and taken again, some times, in rounds, ahead of all coming in.
func TestAllIsLostOften(t *testing.T) {
	const text = "what is written is told"
	for n := 1; n <= len(text)+1; n++ {
		s := of(t, text, true)
		for round := range 5 {
			var way []api.Frame
			for f, ok := s.Take(n+round, math.MaxUint64); ok; f, ok = s.Take(n+round, math.MaxUint64) {
				way = append(way, f)
			}
			var whole []byte
			for _, f := range way {
				whole = append(whole, f.Data...)
			}
			if string(whole) != text || !way[len(way)-1].Fin {
				t.Fatalf("%d, round %d: %q", n, round, whole)
			}
			stands(t, s, uint64(len(text)), false)
			if round == 4 {
				got(t, s, way...)
			} else {
				slices.Reverse(way)
				loses(t, s, way...)
			}
		}
		stands(t, s, uint64(len(text)), true)
	}
}

// R5: the same calls answer the same, in whichever sender and beside whatever else runs.
func TestSideBySide(t *testing.T) {
	var all sync.WaitGroup
	var steps [8][]string
	for w := range steps {
		all.Go(func() {
			s, _ := stream.NewSender(9, 100)
			for i := range 300 {
				e := s.Write([]byte{byte(i), byte(i >> 3)}, i == 299)
				f, ok := s.Take(i%5, uint64(i%4))
				steps[w] = append(steps[w], fmt.Sprint(e, f, ok, s.Fresh(), s.Done()))
				if i%3 == 0 {
					steps[w] = append(steps[w], fmt.Sprint(s.Lost(f)))
				} else {
					steps[w] = append(steps[w], fmt.Sprint(s.Got(f)))
				}
				s.Raise(uint64(100 + i))
			}
		})
	}
	all.Wait()
	for w := range steps {
		if !slices.Equal(steps[w], steps[0]) {
			t.Errorf("the sender %d answered otherwise", w)
		}
	}
}
