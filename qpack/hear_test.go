package qpack_test

import (
	"testing"

	"mailcoach/api"
)

// mine: fields of 38 bytes of which none is a fixed one, nor has a fixed one's name; they have one name. lone: each has a name of its own.
func mine(i int) api.Field { return field("mine", letters(i)) }

func lone(i int) api.Field { return field("no"+letters(i), "lo") }

// letters: two, of a number below 26 times 26.
func letters(i int) string { return string([]byte{'a' + byte(i%26), 'a' + byte(i/26)}) }

// P20.3: of a new encoder: nothing was put, so that only streams that are not looked at may be told.
func TestHearNew(t *testing.T) {
	w := newWatch(t, 400, 2)
	for _, b := range [][]byte{nil, {0x40}, {0x7f}, {0x7f, 0x80}, {0x7f, 0}, {0xff}, {0x3f}, {0x80}, {0}, {1}, {0x3f, 0}, {0x40, 0x44, 0x80}, {0x44, 0x7f}} {
		w.hear(t, b)
	}
	hears(t, w.Encoder, []byte{0x44, 0x7f}, 1)
	hearsNot(t, w.Encoder, []byte{0x80})
	hearsNot(t, w.Encoder, []byte{1})
	hearsNot(t, w.Encoder, []byte{0})
	hears(t, w.Encoder, number(0x40, 6, api.MaxNumber), 10)
}

// P20.3: as many more entries as 0, as came, one more.
func TestHearMore(t *testing.T) {
	w := newWatch(t, 4096, 64)
	for i := range 3 {
		w.put(t, uint64(4*i), []api.Field{mine(i)})
	}
	if len(w.table.all) != 3 {
		t.Fatal("entries:", len(w.table.all))
	}
	e := w.Encoder
	for _, n := range []uint64{0, 4, 5, 62, 63, 64, 1 << 32, 1<<32 + 1, api.MaxNumber} {
		hearsNot(t, e, number(0, 6, n))
	}
	hearsNot(t, e, []byte{1, 3})
	hears(t, e, []byte{1}, 1)
	hearsNot(t, e, []byte{3})
	hears(t, e, []byte{1, 1}, 2)
	hearsNot(t, e, []byte{1})
	hearsNot(t, e, []byte{0})
}

// P20.3: a section that was got tells that what it needed came: more is told from there on.
func TestHearGot(t *testing.T) {
	w := newWatch(t, 4096, 64)
	for i := range 4 {
		w.put(t, uint64(4*i), []api.Field{mine(i)})
	}
	e := w.Encoder
	hears(t, e, []byte{0x88}, 1) // of the third
	hearsNot(t, e, []byte{2})
	hearsNot(t, e, []byte{0x88})
	hears(t, e, []byte{0x80}, 1) // of the first, which tells nothing more
	hearsNot(t, e, []byte{2})
	hears(t, e, []byte{1}, 1)
	hearsNot(t, e, []byte{1})
	hears(t, e, []byte{0x8c, 0x84}, 2)
	for _, id := range []byte{0, 4, 8, 12} {
		hearsNot(t, e, []byte{0x80 | id})
	}
}

// P20.3: sections of a stream that needed entries are told as got as often as they were put, no oftener; those that needed none are not told.
func TestHearSections(t *testing.T) {
	w := newWatch(t, 4096, 64)
	e := w.Encoder
	w.put(t, 4, []api.Field{field(":method", "GET")})
	hearsNot(t, e, []byte{0x84})
	for range 3 {
		w.put(t, 4, []api.Field{mine(0)})
	}
	w.put(t, 8, []api.Field{mine(0)})
	w.put(t, 4, nil)
	hearsNot(t, e, []byte{0x84, 0x84, 0x84, 0x84})
	hears(t, e, []byte{0x84, 0x84}, 2)
	hearsNot(t, e, []byte{0x84, 0x84})
	hears(t, e, []byte{0x84, 0x88}, 2)
	hearsNot(t, e, []byte{0x84})
	hearsNot(t, e, []byte{0x88})
}

// P20.3: of a stream that is not looked at no section is left; of others there are.
func TestHearCancel(t *testing.T) {
	w := newWatch(t, 4096, 64)
	e := w.Encoder
	w.put(t, 4, []api.Field{mine(0)})
	w.put(t, 4, []api.Field{mine(1)})
	w.put(t, 8, []api.Field{mine(1)})
	hears(t, e, []byte{0x84, 0x44}, 2)
	hearsNot(t, e, []byte{0x84})
	hears(t, e, []byte{0x44, 0x44, 0x4c, 0x88}, 4)
	hearsNot(t, e, []byte{0x88})
	hearsNot(t, e, []byte{1}) // both are known, by the sections
}

// P20.3: a stream that is not looked at tells nothing of what came.
func TestHearCancelTellsNothing(t *testing.T) {
	w := newWatch(t, 4096, 64)
	w.put(t, 4, []api.Field{mine(0)})
	w.put(t, 4, []api.Field{mine(1)})
	hears(t, w.Encoder, []byte{0x44}, 1)
	hears(t, w.Encoder, []byte{2}, 1)
	hearsNot(t, w.Encoder, []byte{1})
}

// P20.3: what is said ends at each of its bytes: it is heard as far as it is whole, and the rest with what comes behind.
func TestHearCut(t *testing.T) {
	said := all(number(0x80, 7, api.MaxNumber), number(0x40, 6, 1<<32), number(0, 6, 70), number(0x80, 7, 0), number(0x40, 6, api.MaxNumber), number(0, 6, 1))
	ends := []int{10, 16, 18, 19, 29, 30}
	for cut := 0; cut <= len(said); cut++ {
		w := newWatch(t, 4096, 64)
		w.put(t, api.MaxNumber, []api.Field{mine(0)})
		for i := range 71 {
			w.put(t, 4, []api.Field{mine(i + 1)})
		}
		w.put(t, 0, []api.Field{mine(0)})
		if len(w.table.all) != 72 {
			t.Fatal("entries:", len(w.table.all))
		}
		whole := 0
		for _, end := range ends {
			if end <= cut {
				whole = end
			}
		}
		hears(t, w.Encoder, said[:cut], whole)
		hears(t, w.Encoder, said[whole:cut], 0)
		hears(t, w.Encoder, said[whole:], len(said)-whole)
		hearsNot(t, w.Encoder, []byte{1})
		hearsNot(t, w.Encoder, []byte{0x80})
		hears(t, w.Encoder, []byte{0x84}, 1)
	}
}

// P20.3: numbers above MaxNumber, and without an end.
func TestHearNumbers(t *testing.T) {
	w := newWatch(t, 4096, 64)
	w.put(t, 4, []api.Field{mine(0)})
	for _, n := range [][]byte{unhex(t, "ff ff ff ff ff ff ff ff ff 7f"), unhex(t, "ff ff ff ff ff ff ff ff ff ff")} {
		for _, first := range []byte{0xff, 0x7f, 0x3f} {
			hearsNot(t, w.Encoder, all([]byte{first}, n))
			hearsNot(t, w.Encoder, all([]byte{0x84, first}, n))
			hears(t, w.Encoder, all([]byte{first}, n[:9]), 0)
		}
	}
	hears(t, w.Encoder, []byte{0x84}, 1)
}

// P20.3, R2: with an error nothing of it is heard: neither what was got, nor what is not looked at, nor what came.
func TestHearRefused(t *testing.T) {
	for _, wrong := range []byte{0, 9, 0x90} {
		w := newWatch(t, 4096, 1)
		w.put(t, 4, []api.Field{mine(0)})
		_, made := w.put(t, 8, []api.Field{mine(0)}) // which may not wait beside the other
		if made[0] != 0 {
			t.Fatalf("Put: %x", made)
		}
		w.put(t, 4, []api.Field{mine(1)})
		e := w.Encoder
		for _, ahead := range [][]byte{nil, {0x84}, {0x44}, {1}, {0x84, 0x84}, {0x84, 0x44}, {0x84, 1}, {2}} {
			hearsNot(t, e, all(ahead, []byte{wrong}))
			if _, made := w.put(t, 8, []api.Field{mine(0)}); made[0] != 0 {
				t.Fatalf("%x was heard: Put: %x", ahead, made)
			}
		}
		hears(t, e, []byte{0x84, 1, 0x84}, 3)
		hearsNot(t, e, []byte{0x84})
		hearsNot(t, e, []byte{1})
	}
}
