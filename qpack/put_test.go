package qpack_test

import (
	"bytes"
	"math/rand"
	"slices"
	"strings"
	"testing"

	"mailcoach/api"
	"mailcoach/table"
)

// P20.2: what may not be put; the first error is told; and nothing is changed by it.
func TestPutRefused(t *testing.T) {
	e := newEncoder(t, 4096, 1)
	many := slices.Repeat([]api.Field{mine(0)}, 257)
	long := []api.Field{field("x", strings.Repeat("v", api.MaxText))}
	parts := slices.Repeat([]api.Field{field(strings.Repeat("n", 128), strings.Repeat("v", 128))}, 255)
	parts = append(parts, field(strings.Repeat("n", 128), strings.Repeat("v", 129)))
	for _, id := range []uint64{api.MaxNumber + 1, 1 << 63, 1<<64 - 1} {
		putsNot(t, e, id, nil, api.ErrArg)
		putsNot(t, e, id, many, api.ErrArg)
		putsNot(t, e, id, long, api.ErrArg)
	}
	for _, l := range [][]api.Field{many, long, parts, make([]api.Field, 257), make([]api.Field, 1000), {field(strings.Repeat("n", api.MaxText+1), "")}} {
		putsNot(t, e, 0, l, api.ErrLimit)
	}
	hearsNot(t, e, []byte{0x80})
	hearsNot(t, e, []byte{1})
	told, made := puts(t, e, 0, mine(0))
	again, same := puts(t, newEncoder(t, 4096, 1), 0, mine(0))
	if !bytes.Equal(told, again) || !bytes.Equal(made, same) {
		t.Fatalf("Put behind what was refused: %x %x, not %x %x", told, made, again, same)
	}
}

// P20.2: no fields, the most of them, the most bytes; the ids 0 and MaxNumber.
func TestPutEdges(t *testing.T) {
	big := []api.Field{field("", strings.Repeat("~", api.MaxText))}
	parts := slices.Repeat([]api.Field{field(strings.Repeat("n", 128), strings.Repeat("v", 128))}, 256)
	for _, room := range []int{0, 31, 32, 4096} {
		for _, waits := range []int{0, 1, 64} {
			for _, id := range []uint64{0, api.MaxNumber} {
				w := newWatch(t, room, waits)
				if told, made := w.put(t, id, nil); len(told) != 0 || !bytes.Equal(made, []byte{0, 0}) {
					t.Fatalf("Put of nothing: %x, %x", told, made)
				}
				w.put(t, id, make([]api.Field, 256))
				w.put(t, id, big)
				w.put(t, id, parts)
				w.put(t, id, []api.Field{field(strings.Repeat("n", api.MaxText), "")})
				var many []api.Field
				for i := range 256 {
					many = append(many, mine(i))
				}
				w.put(t, id, many)
				w.put(t, id, slices.Repeat(many[:1], 256))
			}
		}
	}
}

// P20.2: each fixed field is told by its place, and nothing comes to the table for it.
func TestPutFixed(t *testing.T) {
	w := newWatch(t, 4096, 64)
	for i := range 99 {
		f, _ := table.Fixed(i)
		told, made := w.put(t, 0, []api.Field{f})
		if len(told) != 0 || !bytes.Equal(made, all([]byte{0, 0}, number(0xc0, 6, uint64(i)))) {
			t.Fatalf("Put of the fixed field %d: %x, %x", i, told, made)
		}
	}
	told, made := w.put(t, 0, []api.Field{field(":method", "GET"), field(":path", "/")})
	if len(told) != 0 || !bytes.Equal(made, []byte{0, 0, 0xd1, 0xc1}) {
		t.Fatalf("Put: %x, %x", told, made)
	}
}

// P20.2: with no room, or with less than any field has, nothing comes to the table, and R is 0.
func TestPutNoRoom(t *testing.T) {
	for _, room := range []int{0, 1, 31} {
		w := newWatch(t, room, 64)
		for i := range 20 {
			told, made := w.put(t, uint64(4*i), []api.Field{{}, mine(0), field(":path", "/a"), field(":method", "GET")})
			if len(told) != 0 || made[0] != 0 || made[1] != 0 {
				t.Fatalf("room %d: Put: %x, %x", room, told, made)
			}
		}
	}
}

// P20.2: with room for one entry: it comes, is needed, stays while it is, and then goes for another one.
func TestPutRoomForOne(t *testing.T) {
	w := newWatch(t, 32, 64)
	told, made := w.put(t, 0, []api.Field{{}})
	if !bytes.Equal(told, []byte{0x3f, 1, 0x40, 0}) || !bytes.Equal(made, []byte{2, 0, 0x80}) {
		t.Fatalf("Put of an empty field: %x, %x", told, made)
	}
	if told, _ := w.put(t, 0, []api.Field{lone(0)}); len(told) != 0 {
		t.Fatalf("Put of what has no room: %x", told)
	}
	w = newWatch(t, 38, 64)
	w.put(t, 0, []api.Field{lone(0)})
	for _, said := range [][]byte{nil, {1}} {
		hears(t, w.Encoder, said, len(said))
		w.known += len(said)
		if told, made := w.put(t, 4, []api.Field{lone(1)}); len(told) != 0 || made[0] != 0 {
			t.Fatalf("Put while the only entry is needed: %x, %x", told, made)
		}
	}
	w.hear(t, []byte{0x80})
	if told, made := w.put(t, 4, []api.Field{lone(1)}); len(told) == 0 || made[0] == 0 {
		t.Fatalf("Put when the only entry may go: %x, %x", told, made)
	}
	w.hear(t, []byte{0x44})
	if told, _ := w.put(t, 8, []api.Field{lone(2)}); len(told) != 0 {
		t.Fatalf("Put when the only entry is not known to have come: %x", told)
	}
	w.hear(t, []byte{1})
	w.put(t, 8, []api.Field{lone(2), lone(1), lone(2)})
	if len(w.table.all) != 3 {
		t.Fatal("entries:", len(w.table.all))
	}
}

// P20.2: what is known to have come is told in a byte a field, whatever may wait; so "in few bytes".
func TestPutKnown(t *testing.T) {
	l := []api.Field{field("user-agent", "some long text"), field("x-own", strings.Repeat("value", 10)), field(":path", "/there"), field(":method", "GET")}
	for _, waits := range []int{0, 1, 64} {
		w := newWatch(t, 4096, waits)
		told, made := w.put(t, 0, l)
		if len(told) == 0 || (made[0] == 0) != (waits == 0) {
			t.Fatalf("%d may wait: %x, %x", waits, told, made)
		}
		w.hear(t, []byte{3})
		told, made = w.put(t, 4, l)
		if len(told) != 0 || !bytes.Equal(made, []byte{4, 0, 0x82, 0x81, 0x80, 0xd1}) {
			t.Fatalf("%d may wait: the same fields again: %x, %x", waits, told, made)
		}
		told, made = w.put(t, 8, []api.Field{field("x-own", strings.Repeat("~", 5000))}) // of which the name is known
		if len(told) != 0 || made[0] != 3 || made[2] != 0x40 || len(made) != 5006 {
			t.Fatalf("%d may wait: a known name: %x, %x", waits, told, made[:6])
		}
	}
}

// P20.2: R begins anew behind F.
func TestPutNumberRound(t *testing.T) {
	for _, room := range []int{38, 63, 64, 76, 77, 100, 114, 4096} {
		w := newWatch(t, room, 64)
		seen := map[byte]int{}
		for i := range 600 {
			_, made := w.put(t, 4, []api.Field{mine(i)})
			seen[made[0]]++
			w.hear(t, []byte{0x84})
		}
		f := byte(min(255, 2*(room/32)))
		if room == 4096 {
			f = 0xff // and a byte more
		}
		if len(seen) != int(f) || seen[0] > 0 || seen[1] == 0 || seen[f] == 0 {
			t.Fatalf("room %d: R: %v", room, seen)
		}
	}
}

// mayWait: Put of a field whose entry is not known to have come: does the section need it?
func (w *watch) mayWait(t *testing.T, id uint64, f api.Field, want bool) {
	t.Helper()
	if _, made := w.put(t, id, []api.Field{f}); (made[0] != 0) != want {
		t.Fatalf("%d of %d streams may wait; Put(%d): %x", len(w.counted), w.waits, id, made)
	}
}

// P20.2: sections that need what is not known to have come: of so many streams at a time.
func TestPutWaits(t *testing.T) {
	for _, waits := range []int{0, 1, 2, 63, 64} {
		w := newWatch(t, 4096, waits)
		for i := range uint64(waits) {
			w.mayWait(t, 4*i, lone(0), true)
		}
		last := uint64(4 * waits)
		w.mayWait(t, last, lone(0), false)
		if waits == 0 {
			w.hear(t, []byte{1})
			w.mayWait(t, last, lone(0), true) // which need not wait
			continue
		}
		w.mayWait(t, 0, lone(0), true) // it counts already
		w.mayWait(t, last, lone(0), false)
		w.hear(t, number(0x40, 6, last)) // it does not count
		w.mayWait(t, last, lone(0), false)
		w.hear(t, number(0x40, 6, last-4)) // it did
		w.mayWait(t, last, lone(0), true)
		w.mayWait(t, last+4, lone(0), false)
	}
}

// P20.2: a stream counts until all its sections are got, those too that need nothing new.
func TestPutWaitsUntilGot(t *testing.T) {
	w := newWatch(t, 4096, 2)
	w.mayWait(t, 0, lone(0), true)
	w.mayWait(t, 4, lone(0), true)
	w.hear(t, []byte{1})
	w.mayWait(t, 8, lone(0), true)  // which is known to have come
	w.mayWait(t, 8, lone(1), false) // two count
	w.mayWait(t, 4, lone(0), true)
	w.hear(t, []byte{0x84})
	w.mayWait(t, 8, lone(1), false) // one section of the second is left
	w.hear(t, []byte{0x84})
	w.mayWait(t, 8, lone(1), true)
	w.mayWait(t, 4, lone(1), false)
	w.hear(t, []byte{0x88})
	w.mayWait(t, 4, lone(1), false) // of the third too
	w.hear(t, []byte{0x40})
	w.mayWait(t, 4, lone(1), true)
	w.hear(t, []byte{0x88, 0x84})
	w.mayWait(t, 12, lone(2), true)
	w.mayWait(t, 16, lone(2), true)
	w.mayWait(t, 4, lone(2), false)
}

// P20.2: a stream that was got whole counts no more, but does anew by a new section.
func TestPutWaitsAnew(t *testing.T) {
	w := newWatch(t, 4096, 1)
	for i := range 50 {
		id := uint64(4 * (i % 3))
		w.mayWait(t, id, lone(i), true)
		w.mayWait(t, 20, lone(i), false)
		if i%2 == 0 {
			w.hear(t, []byte{0x80 | byte(id)})
		} else {
			w.hear(t, []byte{0x40 | byte(id), 1})
		}
	}
}

// P20.2: a section that needs only what is known to have come does not count.
func TestPutKnownDoesNotCount(t *testing.T) {
	w := newWatch(t, 4096, 1)
	w.mayWait(t, 0, lone(0), true)
	w.hear(t, []byte{0x80})
	for i := range uint64(5) {
		w.mayWait(t, 4*i, lone(0), true)
	}
	w.mayWait(t, 100, lone(1), true)
	w.mayWait(t, 104, lone(1), false)
}

// P20.2: no entry goes that a section needs, by its name alone too, of an earlier Put or of this one.
func TestPutNeeded(t *testing.T) {
	w := newWatch(t, 100, 64)
	own := field("own", "1")
	w.put(t, 0, []api.Field{own})
	w.hear(t, []byte{0x80})
	if _, made := w.put(t, 4, []api.Field{field("own", strings.Repeat("~", 70))}); made[2] != 0x40 {
		t.Fatalf("Put of a known name: %x", made)
	}
	for i := range 10 {
		w.put(t, 8, []api.Field{mine(i), mine(i + 1)})
		w.hear(t, []byte{0x88})
	}
	if w.table.gone != 0 {
		t.Fatal("the entry went whose name is needed")
	}
	w.hear(t, []byte{0x84})
	w.put(t, 8, []api.Field{mine(20)})
	if w.table.gone != 1 {
		t.Fatal("the entry stays that is needed no more")
	}
	w = newWatch(t, 3*38, 64)
	w.put(t, 0, []api.Field{mine(0), mine(1), mine(2)})
	w.hear(t, []byte{0x80})
	w.put(t, 4, []api.Field{mine(1), mine(3), mine(4), mine(5), mine(6)}) // the first one may go, for one of these
	if w.table.gone != 1 || len(w.table.all) != 4 {
		t.Fatal("went, came:", w.table.gone, len(w.table.all))
	}
}

// P20.2: a section keeps only what it needs from going.
func TestPutNeededOnly(t *testing.T) {
	w := newWatch(t, 3*38, 64)
	w.put(t, 0, []api.Field{mine(0), mine(1), mine(2)})
	w.hear(t, []byte{0x80})
	w.put(t, 4, []api.Field{mine(1)})
	w.put(t, 8, []api.Field{mine(3)})
	if w.table.gone != 1 {
		t.Fatal("went:", w.table.gone)
	}
	w.put(t, 8, []api.Field{mine(4)})
	if w.table.gone != 1 {
		t.Fatal("went, though it is needed:", w.table.gone)
	}
}

// P20.2: names that both know: of fixed fields the first place is told, of entries how far behind the last one, or the base, they are.
func TestPutNames(t *testing.T) {
	w := newWatch(t, 0, 0)
	_, made := w.put(t, 0, []api.Field{field(":authority", "~"), field("x-frame-options", "~"), field("own", "~")})
	if want := all([]byte{0, 0}, number(0x50, 4, 0), []byte("\x01~"), number(0x50, 4, 97), []byte("\x01~"), few(0x20, 4, "own"), []byte("\x01~")); !bytes.Equal(made, want) {
		t.Fatalf("Put: %x, not %x", made, want)
	}
	w = newWatch(t, 4096, 0)
	told, _ := w.put(t, 0, []api.Field{field(":authority", "~"), field("own", "~"), field("own", "~~")})
	if want := all(roomFor(4096), number(0xc0, 6, 0), []byte("\x01~"), few(0x40, 6, "own"), []byte("\x01~\x80\x02~~")); !bytes.Equal(told, want) {
		t.Fatalf("Put: %x for the table, not %x", told, want)
	}
	for i := range 80 {
		w.put(t, 0, []api.Field{lone(i)})
	}
	told, _ = w.put(t, 0, []api.Field{field("own", "~~~")})
	if want := all(number(0x80, 6, 80), []byte("\x03~~~")); !bytes.Equal(told, want) {
		t.Fatalf("Put of a name far behind: %x for the table, not %x", told, want)
	}
	w.hear(t, []byte{0x3f, 21})
	_, made = w.put(t, 0, []api.Field{field("own", "~~"), lone(79), field("own", strings.Repeat("~", 5000))})
	if want := all([]byte{85, 0}, number(0x80, 6, 81), number(0x80, 6, 1), number(0x40, 4, 0)); !bytes.HasPrefix(made, want) {
		t.Fatalf("Put: %x, not %x", made[:10], want)
	}
}

// P20.2: drawn fields and drawn sayings that may be, and some that may not, of drawn streams; each answer is looked at.
func TestPutDrawn(t *testing.T) {
	for seed := range int64(300) {
		r := rand.New(rand.NewSource(seed))
		room := []int{0, 31, 32, 33, 40, 64, 70, 100, 150, 220, 400, 1000, 4096}[r.Intn(13)]
		w := newWatch(t, room, []int{0, 1, 2, 5, 64}[r.Intn(5)])
		for range 100 {
			id := uint64(r.Intn(8))
			if r.Intn(20) == 0 {
				id = api.MaxNumber - id
			}
			w.put(t, id, someFields(r, 8))
			for range r.Intn(4) {
				w.hear(t, w.some(r))
			}
		}
	}
}

// some: what a decoder may say, or may not, drawn.
func (w *watch) some(r *rand.Rand) (b []byte) {
	for range r.Intn(4) {
		switch r.Intn(7) {
		case 0:
			b = append(b, number(0x40, 6, uint64(r.Intn(8)))...)
		case 1, 2:
			if more := len(w.table.all) - w.known; more > 0 {
				b = append(b, number(0, 6, uint64(1+r.Intn(more)))...)
			}
		case 3:
			b = append(b, byte(r.Intn(256)))
		default:
			for id := range uint64(8) {
				if len(w.left[id]) > 0 && r.Intn(3) == 0 {
					b = append(b, number(0x80, 7, id)...)
				}
			}
		}
	}
	return b
}

// P20.2, R4: spare room of what is handed in stays as it was; answers are memory of their own, spare room too.
func TestPutMemory(t *testing.T) {
	e := newEncoder(t, 400, 4)
	room := slices.Repeat([]api.Field{field("spare", "room")}, 8)
	copy(room, []api.Field{mine(0), mine(1), field(":method", "GET")})
	was := slices.Clone(room)
	told, made := puts(t, e, 0, room[:3]...)
	same := slices.Clone(made)
	if !slices.Equal(room, was) {
		t.Fatalf("Put changed what it was handed: %q", room)
	}
	scribble(told)
	if !bytes.Equal(made, same) {
		t.Fatal("the two answers share memory")
	}
	scribble(made)
	room[0], room[1] = field("other", "x"), field("other", "y")
	twin := newEncoder(t, 400, 4)
	puts(t, twin, 0, was[:3]...)
	for i := range 5 {
		a, b := puts(t, e, 4, was[:3]...)
		c, d := puts(t, twin, 4, was[:3]...)
		if !bytes.Equal(a, c) || !bytes.Equal(b, d) {
			t.Fatalf("%d: Put: %x %x, not %x %x", i, a, b, c, d)
		}
		scribble(a)
		scribble(b)
	}
}

// scribble over a list and its spare room.
func scribble(b []byte) {
	b = b[:cap(b)]
	for i := range b {
		b[i] = 0xaa
	}
}
