package qpack_test

import (
	"bytes"
	"fmt"
	"math/rand"
	"slices"
	"testing"

	"mailcoach/api"
	"mailcoach/qpack"
)

// sent: a section on its way, and the fields that it was made of.
type sent struct {
	section []byte
	fields  []api.Field
}

// way between an encoder and a decoder: bytes for the table, sections of streams, and what the decoder says come late and cut anyhow.
type way struct {
	*rand.Rand
	enc      *watch
	dec      *qpack.Decoder
	words    *plain // the decoder by the chapter's words
	table    []byte // on the way
	came     []byte // not done yet
	sections map[uint64][]sent
	over     map[uint64]int // streams that are not looked at
	said     []byte
	heard    []byte
	log      bytes.Buffer
	waited   int
}

func newWay(t *testing.T, seed int64) *way {
	r := rand.New(rand.NewSource(seed))
	room := []int{0, 31, 32, 33, 38, 64, 70, 76, 100, 150, 220, 400, 1000, 4096}[r.Intn(14)]
	waits := []int{0, 1, 1, 2, 3, 64}[r.Intn(6)]
	return &way{Rand: r, enc: newWatch(t, room, waits), dec: newDecoder(t, room, waits), words: newPlain(room, waits), sections: map[uint64][]sent{}, over: map[uint64]int{}}
}

// some of these bytes, from the beginning on, as memory of their own; and the rest.
func (w *way) some(b []byte) (first, rest []byte) {
	n := len(b)
	if w.Intn(3) > 0 {
		n = w.Intn(len(b) + 1)
	}
	return slices.Clone(b[:n]), b[n:]
}

// put: fields of a stream that is looked at.
func (w *way) put(t *testing.T) {
	id := uint64(4 * w.Intn(8))
	if w.over[id] > 0 {
		return
	}
	l := someFields(w.Rand, 6)
	for i := range l {
		if w.Intn(2) == 0 {
			l[i] = mine(w.Intn(6))
		}
	}
	told, made := w.enc.put(t, id, l)
	fmt.Fprintf(&w.log, "put %d %x %x\n", id, told, made)
	w.table = append(w.table, told...)
	w.sections[id] = append(w.sections[id], sent{section: made, fields: l})
}

// carry some bytes for the table.
func (w *way) carry(t *testing.T) {
	var some []byte
	some, w.table = w.some(w.table)
	w.came = append(w.came, some...)
	was := slices.Clone(w.came)
	n, e := w.dec.Table(w.came)
	if e != api.OK || !bytes.Equal(w.came, was) {
		t.Fatalf("Table(%x): %d, error %d; then %x", was, n, e, w.came)
	}
	if want, e := w.words.table(w.came); n != want || e != api.OK {
		t.Fatalf("Table(%x): %d, not %d", w.came, n, want)
	}
	fmt.Fprintf(&w.log, "table %d\n", n)
	w.came = w.came[n:]
}

// get the first section of a stream that has one.
func (w *way) get(t *testing.T, id uint64) {
	if len(w.sections[id]) == 0 {
		return
	}
	x := w.sections[id][0]
	was := slices.Clone(x.section)
	l, e := w.dec.Get(id, x.section)
	if _, want := w.words.get(id, was); e != want || !bytes.Equal(was, x.section) {
		t.Fatalf("Get(%d, %x): error %d, not %d", id, was, e, want)
	}
	fmt.Fprintf(&w.log, "get %d %q %d\n", id, l, e)
	switch e {
	case api.OK:
		if !slices.Equal(l, x.fields) {
			t.Fatalf("Get(%d, %x): %q, not %q", id, x.section, l, x.fields)
		}
		scribbleFields(l)
		w.sections[id] = w.sections[id][1:]
	case api.ErrWait:
		w.waited++
	default:
		t.Fatalf("Get(%d, %x): error %d", id, x.section, e)
	}
}

// scribbleFields over a list and its spare room.
func scribbleFields(l []api.Field) {
	l = l[:cap(l)]
	for i := range l {
		l[i] = field("scribbled", "over")
	}
}

// cancel: a stream's sections are not looked at any more.
func (w *way) cancel(t *testing.T) {
	id := uint64(4 * w.Intn(8))
	if w.over[id] > 0 {
		return
	}
	w.over[id]++
	cancels(t, w.dec, id)
	w.words.cancel(id)
	delete(w.sections, id)
}

// say what the decoder says.
func (w *way) say(t *testing.T) {
	b := w.dec.Say()
	if want := w.words.saying(); !bytes.Equal(b, want) {
		t.Fatalf("Say: %x, not %x", b, want)
	}
	w.said = append(w.said, b...)
	scribble(b)
}

// hear some of it.
func (w *way) hear(t *testing.T) {
	var some []byte
	some, w.said = w.some(w.said)
	w.heard = append(w.heard, some...)
	was := slices.Clone(w.heard)
	n, e := w.enc.hear(t, w.heard)
	if e != api.OK || !bytes.Equal(was, w.heard) {
		t.Fatalf("Hear(%x): %d, error %d; then %x", was, n, e, w.heard)
	}
	fmt.Fprintf(&w.log, "hear %d\n", n)
	w.heard = w.heard[n:]
}

// storm: anything happens.
func (w *way) storm(t *testing.T, steps int) {
	for range steps {
		switch x := w.Intn(20); {
		case x < 5:
			w.put(t)
		case x < 8:
			w.carry(t)
		case x < 14:
			w.get(t, uint64(4*w.Intn(8)))
		case x == 14 && w.Intn(10) == 0:
			w.cancel(t)
		case x < 17:
			w.say(t)
		default:
			w.hear(t)
		}
	}
}

// calm: all comes; all sections are got, and all that is said is heard.
func (w *way) calm(t *testing.T) {
	for len(w.table)+len(w.came) > 0 {
		w.carry(t)
	}
	for id := range uint64(8) {
		for n := len(w.sections[4*id]); n > 0; n-- {
			w.get(t, 4*id)
			if len(w.sections[4*id]) >= n {
				t.Fatalf("a section of %d is not got, though all came", 4*id)
			}
		}
	}
	w.say(t)
	says(t, w.dec, "")
	for len(w.said)+len(w.heard) > 0 {
		w.hear(t)
	}
	if len(w.enc.left) > 0 || w.enc.known != len(w.words.all) || len(w.enc.counted) > 0 {
		t.Fatalf("left: %v; known: %d of %d", w.enc.left, w.enc.known, len(w.words.all))
	}
}

// P20.7, P20.2, P20.3: what was put is got, or waits and is got later; what is said is heard.
func TestWays(t *testing.T) {
	waited, came := 0, 0
	for seed := range int64(400) {
		w := newWay(t, seed)
		for range 3 {
			w.storm(t, 100)
			w.calm(t)
		}
		waited += w.waited
		came += len(w.words.all)
	}
	if waited < 200 || came < 1000 {
		t.Fatal("so few waited, or came, that nothing was tried:", waited, came)
	}
}

// R5: what happens twice, in the same order, comes to the same.
func TestWaysTwice(t *testing.T) {
	for seed := range int64(100) {
		a, b := newWay(t, seed), newWay(t, seed)
		for range 2 { // one step of each by turns
			for range 100 {
				a.storm(t, 1)
				b.storm(t, 1)
			}
			a.calm(t)
			b.calm(t)
		}
		if !bytes.Equal(a.log.Bytes(), b.log.Bytes()) {
			t.Fatalf("%d: not the same:\n%s\n%s", seed, a.log.Bytes(), b.log.Bytes())
		}
	}
}

// P20.7: all that is for the table came ahead of Get, in pieces of each size.
func TestWaysCut(t *testing.T) {
	for size := 1; size < 40; size++ {
		for _, room := range []int{0, 64, 200, 4096} {
			enc, dec := newWatch(t, room, 64), newDecoder(t, room, 0)
			for i := range 20 {
				l := []api.Field{mine(i % 5), field(":method", "GET"), lone(i % 7), field("user-agent", "one of them")}
				told, made := enc.put(t, 0, l)
				var rest []byte
				for piece := range slices.Chunk(told, size) {
					rest = append(rest, piece...)
					n, e := dec.Table(rest)
					if e != api.OK {
						t.Fatalf("Table(%x): error %d", rest, e)
					}
					rest = rest[n:]
				}
				gets(t, dec, 0, made, l...)
				rest = nil
				for piece := range slices.Chunk(dec.Say(), size) {
					rest = append(rest, piece...)
					n, e := enc.hear(t, rest)
					if e != api.OK {
						t.Fatalf("Hear(%x): error %d", rest, e)
					}
					rest = rest[n:]
				}
			}
		}
	}
}
