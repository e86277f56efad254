package pieces_test

import (
	"slices"
	"testing"

	"mailcoach/api"
	"mailcoach/pieces"
)

// plain: pieces as the chapter's words tell them, by a list that has each place of the stream and forgets none.
type plain struct {
	room  uint64
	bytes []int // by place: the byte that is or was held, or -1
	read  uint64
	puts  []uint64 // behind, of all that came
	ends  []uint64 // behind, of all that came as the last
}

func newPlain(room int) *plain { return &plain{room: uint64(room)} }

// come: the greatest number behind what came.
func (p *plain) come() uint64 { return slices.Max(append([]uint64{0}, p.puts...)) }

func (p *plain) end() (uint64, bool) {
	if len(p.ends) == 0 {
		return 0, false
	}
	return p.ends[0], true
}

// final: is the end another one, or what comes behind it?
func (p *plain) final(behind uint64, last bool) bool {
	end, known := p.end()
	if known && behind > end {
		return true
	}
	if last && known && behind != end {
		return true
	}
	return last && behind < p.come()
}

func (p *plain) put(at uint64, b []byte, last bool) api.Errno {
	if at > 1<<62-1 || uint64(len(b)) > 1<<62-1-at {
		return api.ErrArg
	}
	behind := at + uint64(len(b))
	if p.final(behind, last) {
		return api.ErrFinal
	}
	if behind > p.read+p.room {
		return api.ErrFull
	}
	for uint64(len(p.bytes)) < behind {
		p.bytes = append(p.bytes, -1)
	}
	for i, x := range b {
		if p.bytes[at+uint64(i)] < 0 { // what was read is not -1, so it stays too
			p.bytes[at+uint64(i)] = int(x)
		}
	}
	p.puts = append(p.puts, behind)
	if last {
		p.ends = append(p.ends, behind)
	}
	return api.OK
}

func (p *plain) take(n int) (out []byte, last bool, e api.Errno) {
	if n < 0 {
		return nil, false, api.ErrArg
	}
	for len(out) < n && p.read < uint64(len(p.bytes)) && p.bytes[p.read] >= 0 {
		out = append(out, byte(p.bytes[p.read]))
		p.read++
	}
	end, known := p.end()
	return out, known && end == p.read, api.OK
}

func (p *plain) held() (many int) {
	for _, x := range p.bytes[min(p.read, uint64(len(p.bytes))):] {
		if x >= 0 {
			many++
		}
	}
	return many
}

// pair: pieces, and the same as the chapter's words tell them; each call is made of both.
type pair struct {
	t *testing.T
	p *pieces.Pieces
	w *plain
}

func newPair(t *testing.T, room int) pair {
	t.Helper()
	return pair{t, made(t, room), newPlain(room)}
}

func (c pair) put(at uint64, b []byte, last bool) {
	c.t.Helper()
	want := c.w.put(at, b, last)
	if e := c.p.Put(at, b, last); e != want {
		c.t.Fatalf("Put(%d, %q, %v) of room %d, read %d: %d; want %d", at, b, last, c.w.room, c.w.read, e, want)
	}
	c.same()
}

func (c pair) take(n int) {
	c.t.Helper()
	want, wantLast, wantErr := c.w.take(n)
	if b, last, e := c.p.Take(n); string(b) != string(want) || last != wantLast || e != wantErr {
		c.t.Fatalf("Take(%d): %q, %v, %d; want %q, %v, %d", n, b, last, e, want, wantLast, wantErr)
	}
	c.same()
}

// same: both tell the same of themselves, and no more is held than there is room for.
func (c pair) same() {
	c.t.Helper()
	if c.p.Read() != c.w.read || c.p.Held() != c.w.held() {
		c.t.Fatalf("read %d, held %d; want %d, %d", c.p.Read(), c.p.Held(), c.w.read, c.w.held())
	}
	end, known := c.p.End()
	if wantEnd, wantKnown := c.w.end(); end != wantEnd || known != wantKnown {
		c.t.Fatalf("end %d, %v; want %d, %v", end, known, wantEnd, wantKnown)
	}
	if uint64(c.p.Held()) > c.w.room {
		c.t.Fatalf("%d bytes are held, with room for %d", c.p.Held(), c.w.room)
	}
}
