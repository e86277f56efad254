package table_test

import (
	"math/rand"
	"testing"

	"mailcoach/api"
	"mailcoach/table"
)

// someRoom: any that may be, small ones, the edges, some that may not.
func someRoom(r *rand.Rand, size int) int {
	switch r.Intn(6) {
	case 0:
		return []int{0, 31, 32, 4095, 4096, -1, 4097}[r.Intn(7)]
	case 1:
		return size + r.Intn(3) - 1
	case 2:
		return r.Intn(200)
	case 3:
		return r.Intn(6000) - 1000
	}
	return r.Intn(4097)
}

// step: a table and the chapter's words do the same, which the table must answer alike.
func step(t *testing.T, r *rand.Rand, x *table.Table, p *plain) {
	t.Helper()
	before := *p
	if r.Intn(10) == 0 {
		n := someRoom(r, x.Size())
		got, want := x.Room(n), p.widen(n)
		if got != want {
			t.Fatalf("Room(%d): error %d, not %d", n, got, want)
		}
		if want != api.OK && (p.room != before.room || p.gone != before.gone) {
			t.Fatal("the words changed what they should not")
		}
		return
	}
	f := someField(r, p.room)
	if got, want := x.Add(f), p.add(f); got != want {
		t.Fatalf("Add of %d bytes, room %d: error %d, not %d", bytes([]api.Field{f}), p.room, got, want)
	}
}

// lasts: P19.5 by the table's own answers: the size is at most the room, and is the sizes of all that are there; those are the last ones that came, in order.
func lasts(t *testing.T, x *table.Table, p *plain) {
	t.Helper()
	var there []api.Field
	for n := x.Gone(); n < x.Came(); n++ {
		f, e := x.Get(n)
		if e != api.OK || f != p.all[n] {
			t.Fatalf("Get(%d), %d came, %d went: %q, error %d", n, x.Came(), x.Gone(), f, e)
		}
		there = append(there, f)
	}
	if x.Size() != bytes(there) || x.Size() > p.room {
		t.Fatalf("%d bytes, not %d; the room is %d", x.Size(), bytes(there), p.room)
	}
}

// drawn: what may come of a row of drawn calls.
func drawn(t *testing.T, seed int64, steps int) {
	r := rand.New(rand.NewSource(seed))
	room := []int{0, 32, 64, 200, 1000, 4096, r.Intn(4097)}[r.Intn(7)]
	x, p := newTable(t, room), &plain{room: room}
	for range steps {
		step(t, r, x, p)
		same(t, x, p)
		lasts(t, x, p)
	}
}

// P19.3, P19.4, P19.5: many rows of calls, each looked at after each call.
func TestDrawn(t *testing.T) {
	for seed := range int64(400) {
		drawn(t, seed, 100)
	}
	for seed := range int64(20) {
		drawn(t, 1000+seed, 1000)
	}
}

// R5: what happens twice, in the same order, comes to the same, of tables that are not alike in what they had to move too.
func TestDrawnTwice(t *testing.T) {
	for seed := range int64(100) {
		var l [2]*table.Table
		for i := range l {
			l[i] = newTable(t, 4096)
			r := rand.New(rand.NewSource(seed))
			p := &plain{room: 4096}
			for range 200 {
				step(t, r, l[i], p)
			}
		}
		x, y := l[0], l[1]
		if x.Came() != y.Came() || x.Gone() != y.Gone() || x.Size() != y.Size() {
			t.Fatal("not the same:", x.Came(), y.Came(), x.Gone(), y.Gone(), x.Size(), y.Size())
		}
		for n := range x.Came() {
			f, e := x.Get(n)
			if g, d := y.Get(n); f != g || e != d {
				t.Fatalf("Get(%d): %q, error %d; %q, error %d", n, f, e, g, d)
			}
		}
	}
}

// FuzzTable: P19.2 to P19.5: bytes say what is called: of each three, the first the call, the others its argument.
func FuzzTable(f *testing.F) {
	f.Add(70, []byte("\x00\x00\x02\x00\x00\x02\x00\x00\x02"))
	f.Add(4096, []byte("\x00\x0f\xe0\x01\x00\x20\x00\x00\x00\x01\xff\xff\x00\x10\x00"))
	f.Add(-1, []byte(""))
	f.Fuzz(func(t *testing.T, room int, calls []byte) {
		x, e := table.New(room)
		if room < 0 || room > 4096 {
			if x != nil || e != api.ErrArg {
				t.Fatalf("New(%d): %v, error %d", room, x, e)
			}
			return
		}
		if x == nil || e != api.OK {
			t.Fatalf("New(%d): %v, error %d", room, x, e)
		}
		p := &plain{room: room}
		for ; len(calls) >= 3; calls = calls[3:] {
			n := int(int16(uint16(calls[1])<<8 | uint16(calls[2])))
			var got, want api.Errno
			if calls[0]&1 == 0 {
				field := sized("", 32+max(n, -n)%4200)
				got, want = x.Add(field), p.add(field)
			} else {
				got, want = x.Room(n), p.widen(n)
			}
			if got != want {
				t.Fatalf("%d %d: error %d, not %d", calls[0]&1, n, got, want)
			}
			same(t, x, p)
			lasts(t, x, p)
		}
	})
}

// FuzzFind: P19.1: what is found is what the chapter's table says.
func FuzzFind(f *testing.F) {
	f.Add(":method", "PUT")
	f.Add(":method", "X")
	f.Add("", "")
	f.Fuzz(func(t *testing.T, name, value string) {
		h := api.Field{Name: name, Value: value}
		whole, first := table.Find(h)
		if w, n := plainFind(chapterFields(t), h); whole != w || first != n {
			t.Fatalf("Find(%q): %d %d, not %d %d", h, whole, first, w, n)
		}
	})
}
