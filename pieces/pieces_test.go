package pieces_test

import (
	"bytes"
	"fmt"
	"math"
	"math/rand"
	"slices"
	"sync"
	"testing"

	"mailcoach/api"
	"mailcoach/pieces"
)

const most = api.MaxNumber

// made: pieces with so much room.
func made(t *testing.T, room int) *pieces.Pieces {
	t.Helper()
	p, e := pieces.New(room)
	if p == nil || e != api.OK {
		t.Fatalf("New(%d): %v, %d", room, p, e)
	}
	return p
}

// put: bytes at a place, which are answered so.
func put(t *testing.T, p *pieces.Pieces, at uint64, b string, last bool, want api.Errno) {
	t.Helper()
	if e := p.Put(at, []byte(b), last); e != want {
		t.Errorf("Put(%d, %q, %v): %d; want %d", at, b, last, e, want)
	}
}

// take: so many bytes at most, which are these.
func take(t *testing.T, p *pieces.Pieces, n int, want string, wantLast bool) {
	t.Helper()
	if b, last, e := p.Take(n); string(b) != want || last != wantLast || e != api.OK {
		t.Errorf("Take(%d): %q, %v, %d; want %q, %v", n, b, last, e, want, wantLast)
	}
}

// stands: how many bytes were taken, how many are held; and that the end is not known.
func stands(t *testing.T, p *pieces.Pieces, read uint64, held int) {
	t.Helper()
	if end, known := p.End(); end != 0 || known {
		t.Errorf("the end is %d, %v", end, known)
	}
	counts(t, p, read, held)
}

// ends: how many bytes were taken, how many are held, and where the end is.
func ends(t *testing.T, p *pieces.Pieces, read uint64, held int, want uint64) {
	t.Helper()
	if end, known := p.End(); end != want || !known {
		t.Errorf("the end is %d, %v; want %d", end, known, want)
	}
	counts(t, p, read, held)
}

func counts(t *testing.T, p *pieces.Pieces, read uint64, held int) {
	t.Helper()
	if p.Read() != read || p.Held() != held {
		t.Errorf("read %d, held %d; want %d, %d", p.Read(), p.Held(), read, held)
	}
}

// P9.1 to P9.3: the chapter's examples.
func TestExamples(t *testing.T) {
	p := made(t, 8)
	put(t, p, 3, "de", false, api.OK)
	take(t, p, 9, "", false)
	stands(t, p, 0, 2)
	put(t, p, 0, "abcX", false, api.OK)
	take(t, p, 2, "ab", false)
	stands(t, p, 2, 3)
	take(t, p, 9, "cde", false)
	put(t, p, 4, "Zf", true, api.OK)
	ends(t, p, 5, 1, 6)
	take(t, p, 0, "", false)
	take(t, p, 9, "f", true)
	take(t, p, 1, "", true)
	put(t, p, 6, "g", false, api.ErrFinal)
	put(t, p, 5, "f", false, api.OK)
	put(t, p, 5, "f", true, api.OK)
	put(t, p, 4, "e", true, api.ErrFinal)
	ends(t, p, 6, 0, 6)
	p = made(t, 4)
	put(t, p, 5, "", false, api.ErrFull)
	put(t, p, 4, "", true, api.OK)
	put(t, p, 0, "abcd", false, api.OK)
	put(t, p, 2, "c", true, api.ErrFinal)
	put(t, p, 1<<62, "", false, api.ErrArg)
	put(t, p, 1<<62-1, "a", false, api.ErrArg)
	ends(t, p, 0, 4, 4)
}

// P9.1: rooms that may be, the edges among them: nothing came.
func TestNew(t *testing.T) {
	for _, room := range []int{0, 1, 2, 1200, api.MaxBytes - 1, api.MaxBytes} {
		p := made(t, room)
		stands(t, p, 0, 0)
		take(t, p, 5, "", false)
		put(t, p, uint64(room), "", false, api.OK)
		put(t, p, uint64(room), "a", false, api.ErrFull)
		stands(t, p, 0, 0)
		p = made(t, room)
		put(t, p, 0, "", true, api.OK) // Come is 0
		take(t, p, 5, "", true)
	}
}

// P9.1: rooms that may not be.
func TestNewOfWrongRoom(t *testing.T) {
	for _, room := range []int{-1, -2, math.MinInt, api.MaxBytes + 1, 1 << 32, math.MaxInt} {
		if p, e := pieces.New(room); p != nil || e != api.ErrArg {
			t.Errorf("New(%d): %v, %d", room, p, e)
		}
	}
}

// P9.2: with no room, none but the end may come.
func TestNoRoom(t *testing.T) {
	p := made(t, 0)
	put(t, p, 0, "", false, api.OK)
	put(t, p, 0, "a", false, api.ErrFull)
	put(t, p, 0, "a", true, api.ErrFull)
	put(t, p, 1, "", false, api.ErrFull)
	put(t, p, 1, "", true, api.ErrFull)
	stands(t, p, 0, 0)
	take(t, p, 1, "", false)
	put(t, p, 0, "", true, api.OK)
	ends(t, p, 0, 0, 0)
	take(t, p, 0, "", true)
	put(t, p, 0, "a", false, api.ErrFinal)
	put(t, p, 0, "", true, api.OK)
	put(t, p, 0, "", false, api.OK)
}

// P9.2, P9.4: the greatest room, filled whole from behind, and again behind what was taken.
func TestGreatestRoom(t *testing.T) {
	const room, size = api.MaxBytes, 1 << 12
	all := make([]byte, 2*room)
	rand.New(rand.NewSource(9)).Read(all)
	p := made(t, room)
	var got []byte
	for half := range 2 {
		for at := (half+1)*room - size; at >= half*room; at -= size {
			put(t, p, uint64(at), string(all[at:at+size]), at == 2*room-size, api.OK)
		}
		counts(t, p, uint64(half*room), room)
		put(t, p, uint64((half+1)*room), "x", false, []api.Errno{api.ErrFull, api.ErrFinal}[half])
		for _, n := range []int{1, room - 2, 1} {
			b, last, e := p.Take(n)
			got = append(got, b...)
			if len(b) != n || e != api.OK || last != (len(got) == 2*room) {
				t.Fatalf("%d bytes, %v, %d, at %d", len(b), last, e, len(got))
			}
		}
		counts(t, p, uint64((half+1)*room), 0)
	}
	if !bytes.Equal(got, all) {
		t.Error("other bytes were taken than came")
	}
}

// P9.2: bytes that end just at the room's end are held, with the room counted from what was read; one more is refused.
func TestRoomsEnd(t *testing.T) {
	p := made(t, 4)
	put(t, p, 0, "abcde", false, api.ErrFull)
	put(t, p, 4, "e", false, api.ErrFull)
	stands(t, p, 0, 0)
	put(t, p, 2, "cd", false, api.OK)
	put(t, p, 4, "", false, api.OK)
	put(t, p, 5, "", false, api.ErrFull)
	put(t, p, 0, "abcd", false, api.OK)
	stands(t, p, 0, 4)
	put(t, p, 0, "abcde", false, api.ErrFull)
	take(t, p, 3, "abc", false)
	put(t, p, 3, "defgh", false, api.ErrFull)
	put(t, p, 0, "abcdefgh", false, api.ErrFull)
	put(t, p, 8, "", false, api.ErrFull)
	stands(t, p, 3, 1)
	put(t, p, 7, "", false, api.OK)
	put(t, p, 6, "g", false, api.OK)
	put(t, p, 0, "abcdefg", true, api.OK)
	ends(t, p, 3, 4, 7)
	take(t, p, 4, "defg", true)
}

// P9.2: places below Read are passed over, whatever stands there; bytes from Read on are held.
func TestBelowRead(t *testing.T) {
	p := made(t, 4)
	put(t, p, 0, "abc", false, api.OK)
	take(t, p, 9, "abc", false)
	put(t, p, 0, "x", false, api.OK)
	put(t, p, 0, "xyz", false, api.OK)
	put(t, p, 2, "z", false, api.OK)
	put(t, p, 0, "", false, api.OK)
	stands(t, p, 3, 0)
	take(t, p, 9, "", false)
	put(t, p, 1, "xxde", false, api.OK)
	stands(t, p, 3, 2)
	take(t, p, 1, "d", false)
	put(t, p, 3, "x", false, api.OK)
	put(t, p, 0, "xxxx", false, api.OK)
	stands(t, p, 4, 1)
	take(t, p, 9, "e", false)
	put(t, p, 0, "xxxxx", true, api.OK)
	ends(t, p, 5, 0, 5)
	take(t, p, 9, "", true)
}

// P9.2: where a byte is held it stays, whether all or some of what comes is at such places.
func TestHeldStays(t *testing.T) {
	p := made(t, 9)
	put(t, p, 2, "cd", false, api.OK)
	put(t, p, 2, "XX", false, api.OK)
	put(t, p, 3, "X", false, api.OK)
	stands(t, p, 0, 2)
	put(t, p, 1, "bXXe", false, api.OK)
	stands(t, p, 0, 4)
	put(t, p, 6, "g", false, api.OK)
	put(t, p, 4, "XfXh", true, api.OK)
	ends(t, p, 0, 7, 8)
	put(t, p, 0, "aXXXXXXX", true, api.OK)
	take(t, p, 9, "abcdefgh", true)
}

// P9.2: a place and what is behind the bytes are at most MaxNumber; ahead of all else ErrArg is answered.
func TestPlacesAboveMaxNumber(t *testing.T) {
	for _, c := range []struct {
		name string
		room int
		come string
		last bool
	}{{"nothing came", 8, "", false}, {"no room", 0, "", false}, {"some came", 8, "abc", false}, {"the end came", 8, "abc", true}, {"the end came, with nothing", 0, "", true}} {
		for _, w := range []struct {
			at uint64
			b  string
		}{{most + 1, ""}, {most + 1, "a"}, {most, "a"}, {most, "ab"}, {most - 1, "ab"}, {most - 7, "abcdefghi"}, {1 << 63, ""}, {math.MaxUint64, ""}, {math.MaxUint64, "a"}, {math.MaxUint64, "ab"}, {math.MaxUint64 - 1, "abcd"}, {math.MaxUint64 - 2, "abcdef"}} {
			for _, last := range []bool{false, true} {
				p := made(t, c.room)
				put(t, p, 0, c.come, c.last, api.OK)
				put(t, p, w.at, w.b, last, api.ErrArg)
				if end, known := p.End(); end != map[bool]uint64{true: uint64(len(c.come))}[c.last] || known != c.last {
					t.Errorf("%s: the end is %d, %v", c.name, end, known)
				}
				take(t, p, 9, c.come, c.last)
			}
		}
	}
}

// P9.2: the place MaxNumber may be told, and behind may be it: it is behind the end, or there is no room for it.
func TestMaxNumber(t *testing.T) {
	for _, room := range []int{0, 8, api.MaxBytes} {
		for _, last := range []bool{false, true} {
			p := made(t, room)
			put(t, p, most, "", last, api.ErrFull)
			put(t, p, most-1, "a", last, api.ErrFull)
			put(t, p, most-8, "abcdefgh", last, api.ErrFull)
			stands(t, p, 0, 0)
			put(t, p, 0, "", true, api.OK)
			put(t, p, most, "", last, api.ErrFinal)
			put(t, p, most-1, "a", last, api.ErrFinal)
			ends(t, p, 0, 0, 0)
		}
	}
}

// P9.2: behind the end that is known nothing comes, and the end is no other one; what ends there, or ahead of it and is not the last, comes.
func TestKnownEnd(t *testing.T) {
	p := made(t, 9)
	put(t, p, 3, "d", true, api.OK)
	ends(t, p, 0, 1, 4)
	put(t, p, 4, "e", false, api.ErrFinal)
	put(t, p, 4, "e", true, api.ErrFinal)
	put(t, p, 5, "", false, api.ErrFinal)
	put(t, p, 5, "", true, api.ErrFinal)
	put(t, p, 0, "abcde", false, api.ErrFinal)
	put(t, p, 0, "abcde", true, api.ErrFinal)
	put(t, p, 0, "abc", true, api.ErrFinal)
	put(t, p, 3, "", true, api.ErrFinal)
	put(t, p, 0, "", true, api.ErrFinal)
	ends(t, p, 0, 1, 4)
	put(t, p, 4, "", false, api.OK)
	put(t, p, 4, "", true, api.OK)
	put(t, p, 3, "X", true, api.OK)
	put(t, p, 2, "c", false, api.OK)
	put(t, p, 0, "", false, api.OK)
	put(t, p, 1, "bXX", true, api.OK)
	ends(t, p, 0, 3, 4)
	take(t, p, 9, "", false)
	put(t, p, 0, "a", false, api.OK)
	take(t, p, 3, "abc", false)
	take(t, p, 1, "d", true)
	put(t, p, 4, "", true, api.OK)
	put(t, p, 5, "", true, api.ErrFinal)
	put(t, p, 3, "", true, api.ErrFinal)
	put(t, p, 0, "abcd", true, api.OK)
	ends(t, p, 4, 0, 4)
	take(t, p, 9, "", true)
}

// P9.2: the end is not below Come, whether a byte came there, was read, or what came there had no bytes.
func TestEndBelowCome(t *testing.T) {
	for _, c := range []struct {
		name string
		at   uint64
		b    string
		take int
		come uint64
	}{
		{"bytes behind a hole", 2, "cd", 0, 4},
		{"bytes from 0 on", 0, "abcd", 0, 4},
		{"bytes of which some were read", 0, "abcd", 2, 4},
		{"bytes that were read", 0, "abcd", 4, 4},
		{"no bytes, with room ahead", 5, "", 0, 5},
		{"no bytes, at the room's end", 8, "", 0, 8},
		{"a byte", 0, "a", 0, 1},
	} {
		for at := range uint64(9) {
			p := made(t, 8)
			put(t, p, c.at, c.b, false, api.OK)
			take(t, p, c.take, c.b[:c.take], false)
			put(t, p, 0, "", false, api.OK) // Come stays
			if at < c.come {
				put(t, p, at, "", true, api.ErrFinal)
				put(t, p, 0, "abcdefgh"[:at], true, api.ErrFinal)
				stands(t, p, uint64(c.take), len(c.b)-c.take)
			}
			put(t, p, max(at, c.come), "", true, api.OK)
			ends(t, p, uint64(c.take), len(c.b)-c.take, max(at, c.come))
		}
	}
}

// P9.2: where two refusals fit, ErrArg is ahead of ErrFinal, that of ErrFull.
func TestWhichRefusal(t *testing.T) {
	p := made(t, 4)
	put(t, p, 0, "abc", false, api.OK)
	put(t, p, 5, "", true, api.ErrFull) // not below Come: no room alone
	put(t, p, most+1, "", true, api.ErrArg)
	put(t, p, 0, "abc", true, api.OK)
	put(t, p, 8, "xyz", false, api.ErrFinal)
	put(t, p, 8, "xyz", true, api.ErrFinal)
	put(t, p, 5, "", true, api.ErrFinal)
	put(t, p, most+1, "xyz", true, api.ErrArg)
	put(t, p, most, "xyz", false, api.ErrArg)
	put(t, p, math.MaxUint64, "xyz", true, api.ErrArg) // behind, wrapped round, would be 2
	ends(t, p, 0, 3, 3)
	take(t, p, 9, "abc", true)
}

// P9.3: a Take of 0, of fewer than are held, of just so many, of more; across a hole; up to the end.
func TestTake(t *testing.T) {
	p := made(t, 20)
	take(t, p, 0, "", false)
	take(t, p, math.MaxInt, "", false)
	put(t, p, 0, "abcdef", false, api.OK)
	put(t, p, 8, "ijk", false, api.OK)
	take(t, p, 0, "", false)
	stands(t, p, 0, 9)
	take(t, p, 1, "a", false)
	take(t, p, 3, "bcd", false)
	stands(t, p, 4, 5)
	take(t, p, 2, "ef", false)
	take(t, p, 1, "", false)
	stands(t, p, 6, 3)
	put(t, p, 6, "g", false, api.OK)
	take(t, p, 9, "g", false)
	put(t, p, 7, "h", false, api.OK)
	take(t, p, math.MaxInt, "hijk", false)
	stands(t, p, 11, 0)
	put(t, p, 13, "n", true, api.OK)
	take(t, p, 9, "", false)
	put(t, p, 11, "lm", false, api.OK)
	take(t, p, 2, "lm", false)
	take(t, p, 0, "", false)
	ends(t, p, 13, 1, 14)
	take(t, p, 1, "n", true)
	ends(t, p, 14, 0, 14)
	for _, n := range []int{0, 1, math.MaxInt} {
		take(t, p, n, "", true)
	}
}

// P9.3: the end may become known behind all that was taken, with no bytes: then it is told at once, to a Take of 0 too.
func TestEndBehindWhatWasTaken(t *testing.T) {
	p := made(t, 4)
	put(t, p, 0, "abcd", false, api.OK)
	take(t, p, 4, "abcd", false)
	take(t, p, 0, "", false)
	put(t, p, 4, "", true, api.OK)
	ends(t, p, 4, 0, 4)
	take(t, p, 0, "", true)
	p = made(t, 4)
	put(t, p, 0, "abcd", true, api.OK)
	take(t, p, 0, "", false)
	take(t, p, 3, "abc", false)
	take(t, p, 1, "d", true)
}

// P9.3: a Take of fewer than 0 bytes is refused, and nothing is taken, nor the end told.
func TestTakeBelowNone(t *testing.T) {
	p := made(t, 4)
	put(t, p, 0, "abc", true, api.OK)
	for range 2 {
		for _, n := range []int{-1, -2, math.MinInt} {
			read, held := p.Read(), p.Held()
			if b, last, e := p.Take(n); len(b) != 0 || last || e != api.ErrArg {
				t.Errorf("Take(%d): %q, %v, %d", n, b, last, e)
			}
			ends(t, p, read, held, 3)
		}
		if p.Held() > 0 {
			take(t, p, 3, "abc", true)
		}
	}
}

// R3: pieces that are not there, and a struct that New did not make.
func TestNotThere(t *testing.T) {
	for _, p := range []*pieces.Pieces{nil, {}, new(pieces.Pieces)} {
		for range 2 {
			for _, at := range []uint64{0, 1, most, most + 1, math.MaxUint64} {
				put(t, p, at, "", false, api.ErrNil)
				put(t, p, at, "", true, api.ErrNil)
				put(t, p, at, "a", true, api.ErrNil)
			}
			for _, n := range []int{math.MinInt, -1, 0, 1, math.MaxInt} {
				if b, last, e := p.Take(n); len(b) != 0 || last || e != api.ErrNil {
					t.Errorf("Take(%d): %q, %v, %d", n, b, last, e)
				}
			}
			stands(t, p, 0, 0)
		}
	}
}

// P9.2, P9.3: each row of three calls of few bytes, with little room, held against the chapter's words.
func TestAllShortRows(t *testing.T) {
	var calls []func(c pair, turn int)
	for at := range uint64(5) {
		for size := range 4 {
			for _, last := range []bool{false, true} {
				calls = append(calls, func(c pair, turn int) {
					b := []byte{byte(16 * turn), byte(16*turn + 1), byte(16*turn + 2)}
					c.put(at, b[:size], last)
				})
			}
		}
	}
	for n := range 5 {
		calls = append(calls, func(c pair, _ int) { c.take(n - 1) })
	}
	for room := range 4 {
		for i := range len(calls) * len(calls) * len(calls) {
			c := newPair(t, room)
			calls[i%len(calls)](c, 0)
			calls[i/len(calls)%len(calls)](c, 1)
			calls[i/len(calls)/len(calls)](c, 2)
			c.take(9)
		}
	}
}

// P9.2, P9.3: long rows of any calls, held against the chapter's words.
func TestSomeLongRows(t *testing.T) {
	r := rand.New(rand.NewSource(2))
	for range 3000 {
		c := newPair(t, r.Intn(20))
		for range 60 {
			at := c.w.read + uint64(r.Intn(24)) - min(c.w.read, uint64(r.Intn(6)))
			b := make([]byte, r.Intn(1+r.Intn(10)))
			r.Read(b)
			switch r.Intn(12) {
			case 0, 1, 2:
				c.take(r.Intn(8) - 1)
			case 3:
				c.put([]uint64{most - 1, most, most + 1, math.MaxUint64 - 1, math.MaxUint64}[r.Intn(5)], b, r.Intn(4) == 0)
			default:
				c.put(at, b, r.Intn(40) == 0)
			}
		}
	}
}

// P9.2, R2: what is refused changes nothing: with many refusals between, all goes as without them.
func TestRefusedChangesNothing(t *testing.T) {
	r := rand.New(rand.NewSource(3))
	refused := map[api.Errno]int{}
	for range 1500 {
		room := r.Intn(12)
		c := newPair(t, room)
		for range 30 {
			for range r.Intn(6) { // of the pieces alone: the words that they are held against never hear of these
				at, b, last := uint64(r.Intn(30)), []byte("XXXXXX")[:r.Intn(7)], r.Intn(2) == 0
				if r.Intn(4) == 0 {
					at += most - 3
				}
				behind := at + uint64(len(b))
				if behind <= most && !c.w.final(behind, last) && behind <= c.w.read+c.w.room {
					continue
				}
				e := c.p.Put(at, b, last)
				if e == api.OK {
					t.Fatalf("Put(%d, %q, %v) was not refused", at, b, last)
				}
				refused[e]++
				c.p.Take(-1 - r.Intn(3))
				c.same()
			}
			if r.Intn(4) == 0 {
				c.take(r.Intn(6))
			} else {
				c.put(c.w.read+uint64(r.Intn(room+1)), []byte{byte(r.Int()), byte(r.Int())}[:r.Intn(3)], r.Intn(20) == 0)
			}
		}
		c.take(math.MaxInt)
	}
	if refused[api.ErrArg] == 0 || refused[api.ErrFinal] == 0 || refused[api.ErrFull] == 0 {
		t.Errorf("of each kind some should be refused: %v", refused)
	}
}

// P9.4: pieces of a stream, in any order, twice and more, overlapping: what is taken is a beginning of it; once all came, all of it, and that it is the end.
func TestStreams(t *testing.T) {
	r := rand.New(rand.NewSource(4))
	for range 400 {
		all := make([]byte, r.Intn(300))
		r.Read(all)
		s := newStream(t, all, 1+r.Intn(1+r.Intn(400)))
		for turn := 0; !s.whole(); turn++ {
			if turn > 100000 {
				t.Fatalf("%d bytes did not come, with room for %d: %d were taken", len(all), s.room, len(s.got))
			}
			s.put(somePiece(r, all, len(s.got), s.room))
			if r.Intn(3) == 0 {
				s.take(r.Intn(1 + r.Intn(50)))
			}
		}
		s.take(math.MaxInt)
		if !bytes.Equal(s.got, all) {
			t.Fatalf("taken %q of %q", s.got, all)
		}
	}
}

// stream: a stream, of which pieces come; which of its bytes came, and whether its end did; what was taken.
type stream struct {
	t     *testing.T
	p     *pieces.Pieces
	all   []byte
	room  int
	come  []bool
	ended bool
	got   []byte
}

func newStream(t *testing.T, all []byte, room int) *stream {
	return &stream{t: t, p: made(t, room), all: all, room: room, come: make([]bool, len(all))}
}

// whole: did all of it come?
func (s *stream) whole() bool { return s.ended && !slices.Contains(s.come, false) }

func (s *stream) put(b []byte, at int, last bool) {
	s.t.Helper()
	e := s.p.Put(uint64(at), b, last)
	if full := at+len(b) > len(s.got)+s.room; full != (e == api.ErrFull) || !full && e != api.OK {
		s.t.Fatalf("Put of %d bytes at %d: %d", len(b), at, e)
	}
	if s.p.Held() > s.room {
		s.t.Fatalf("%d bytes are held, with room for %d", s.p.Held(), s.room)
	}
	if e != api.OK {
		return
	}
	s.ended = s.ended || last
	for i := range b {
		s.come[at+i] = true
	}
}

// take: what is taken is the next of what came, up to a hole; the end is told behind the whole alone, and then each time.
func (s *stream) take(n int) {
	s.t.Helper()
	b, last, e := s.p.Take(n)
	for range b {
		if len(s.got) == len(s.all) || !s.come[len(s.got)] {
			s.t.Fatalf("taken %q behind %d bytes: not all of it came", b, len(s.got))
		}
		s.got = append(s.got, s.all[len(s.got)])
	}
	if !bytes.HasSuffix(s.got, b) || e != api.OK || s.p.Read() != uint64(len(s.got)) {
		s.t.Fatalf("taken %q, %d, read %d: %q", b, e, s.p.Read(), s.got)
	}
	if len(b) < n && len(s.got) < len(s.all) && s.come[len(s.got)] {
		s.t.Fatalf("taken %q: more can be read", b)
	}
	if last != (s.ended && len(s.got) == len(s.all)) {
		s.t.Fatalf("the end behind %d bytes of %d: %v", len(s.got), len(s.all), last)
	}
}

// somePiece: a piece of a stream, around what comes next to be read, or anywhere; and whether it is told as the last.
func somePiece(r *rand.Rand, all []byte, read, room int) (b []byte, at int, last bool) {
	at = r.Intn(len(all) + 1)
	if r.Intn(2) == 0 {
		at = max(0, min(len(all), read-3+r.Intn(8)))
	}
	behind := min(len(all), at+r.Intn(40))
	if r.Intn(2) == 0 { // else a little room would seldom take one
		behind = max(at, min(behind, read+room))
	}
	return all[at:behind], at, behind == len(all) && r.Intn(2) == 0
}

// P9.4: a stream's bytes one by one in each order that may be, once and twice; the end told with the last, with every one that reaches it, or alone.
func TestAllOrders(t *testing.T) {
	const all = "abcde"
	var order func(left []int, done []int, do func([]int))
	order = func(left, done []int, do func([]int)) {
		if len(left) == 0 {
			do(done)
		}
		for i, x := range left {
			rest := append(append([]int(nil), left[:i]...), left[i+1:]...)
			order(rest, append(append([]int(nil), done...), x), do)
		}
	}
	order([]int{0, 1, 2, 3, 4}, nil, func(places []int) {
		for _, twice := range []bool{false, true} {
			for _, alone := range []bool{false, true} {
				for step := range 3 { // so many are taken behind each that comes
					p := made(t, len(all))
					got := ""
					if alone {
						put(t, p, 5, "", true, api.OK)
					}
					for _, at := range places {
						put(t, p, uint64(at), all[at:at+1], at == 4 && !alone, api.OK)
						if twice {
							put(t, p, uint64(at), all[at:at+1], false, api.OK)
						}
						b, last, e := p.Take(step)
						got += string(b)
						if e != api.OK || got != all[:len(got)] || last != (got == all) {
							t.Fatalf("%v: %q, %v, %d", places, got, last, e)
						}
					}
					take(t, p, 9, all[len(got):], true)
					ends(t, p, 5, 0, 5)
				}
			}
		}
	})
}

// R4: what is handed in, its spare room too, stays as it was, and is not kept: writing over it afterwards changes nothing.
func TestHandedInStays(t *testing.T) {
	p := made(t, 9)
	room := []byte("..abcdefgh..")
	for range 2 {
		for _, c := range []struct {
			at   uint64
			b    []byte
			last bool
			want api.Errno
		}{{0, room[2:5], false, api.OK}, {1, room[3:8], false, api.OK}, {2, room[4:12], false, api.ErrFull}, {most, room[2:4], true, api.ErrArg}, {0, room[2:3], true, api.ErrFinal}} {
			if e := p.Put(c.at, c.b, c.last); e != c.want {
				t.Errorf("Put(%d, %q): %d; want %d", c.at, c.b, e, c.want)
			}
			if string(room) != "..abcdefgh.." {
				t.Fatalf("it is %q", room)
			}
		}
	}
	copy(room, "............")
	b, _, _ := p.Take(9)
	if string(b) != "abcdef" {
		t.Errorf("taken %q", b)
	}
	b = append(b, "123456789"...)[:cap(b)]
	for i := range b {
		b[i] = '!'
	}
	if string(room) != "............" {
		t.Errorf("it is %q", room)
	}
}

// R4: an answer, its spare room too, is memory of its own: writing over it changes neither what is held nor another answer.
func TestAnswersAreNewMemory(t *testing.T) {
	p := made(t, 40)
	const all = "abcdefghijklmnopqrstuvwxyz"
	put(t, p, 0, all, false, api.OK)
	var answers [][]byte
	for at := 0; at < len(all); at += 5 {
		b, _, _ := p.Take(5)
		if string(b) != all[at:min(at+5, len(all))] {
			t.Errorf("taken %q at %d", b, at)
		}
		for _, a := range answers {
			if string(a[:1]) != "!" {
				t.Error("an answer was written over")
			}
		}
		for i := range b[:cap(b)] {
			b[:cap(b)][i] = '!'
		}
		answers = append(answers, b)
	}
	put(t, p, 20, "uvwxyz12", true, api.OK)
	take(t, p, 9, "12", true)
}

// R4: no bytes and nil are the same.
func TestEmptyAndNil(t *testing.T) {
	for _, b := range [][]byte{nil, {}, make([]byte, 0, 9)} {
		p := made(t, 3)
		if p.Put(4, b, false) != api.ErrFull || p.Put(3, b, false) != api.OK || p.Put(2, b, true) != api.ErrFinal || p.Put(most+1, b, true) != api.ErrArg || p.Put(3, b, true) != api.OK {
			t.Error("no bytes")
		}
		ends(t, p, 0, 0, 3)
	}
}

// R5: pieces share nothing: by turns each goes as it would alone.
func TestPiecesShareNothing(t *testing.T) {
	r := rand.New(rand.NewSource(6))
	for range 200 {
		all := []pair{newPair(t, 6), newPair(t, 6), newPair(t, 12)}
		for range 60 {
			c := all[r.Intn(len(all))]
			b := make([]byte, r.Intn(5))
			r.Read(b)
			c.put(c.w.read+uint64(r.Intn(9)), b, r.Intn(30) == 0)
			all[r.Intn(len(all))].take(r.Intn(4))
		}
	}
}

// R5: many at a time go as one alone.
func TestManyAtATime(t *testing.T) {
	alone := told(t)
	all := make([]string, 8)
	var work sync.WaitGroup
	for i := range all {
		work.Go(func() { all[i] = told(t) })
	}
	work.Wait()
	for i, x := range all {
		if x != alone {
			t.Errorf("worker %d was told otherwise", i)
		}
	}
}

// told: all that some pieces answer to a long row of calls.
func told(t *testing.T) (answers string) {
	r := rand.New(rand.NewSource(7))
	for range 40 {
		p, e := pieces.New(r.Intn(30))
		if e != api.OK {
			t.Errorf("New: %d", e)
		}
		for range 60 {
			b := make([]byte, r.Intn(9))
			r.Read(b)
			e := p.Put(p.Read()+uint64(r.Intn(20)), b, r.Intn(30) == 0)
			out, last, _ := p.Take(r.Intn(9))
			end, known := p.End()
			answers += fmt.Sprint(e, out, last, p.Read(), p.Held(), end, known, ";")
		}
	}
	return answers
}
