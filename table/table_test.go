package table_test

import (
	"strconv"
	"strings"
	"sync"
	"testing"

	"mailcoach/api"
	"mailcoach/table"
)

// P19.2, P19.3, P19.4: the chapter's examples.
func TestExamples(t *testing.T) {
	x, e := table.New(70)
	if e != api.OK {
		t.Fatal("New:", e)
	}
	for _, f := range []api.Field{{Name: "a", Value: "b"}, {Name: "c", Value: "d"}} {
		if e := x.Add(f); e != api.OK {
			t.Errorf("Add(%q): error %d", f, e)
		}
	}
	if x.Size() != 68 || x.Came() != 2 || x.Gone() != 0 {
		t.Error("of two:", x.Size(), x.Came(), x.Gone())
	}
	if e := x.Add(api.Field{Name: "e", Value: "f"}); e != api.OK {
		t.Error("Add:", e)
	}
	if f, e := x.Get(0); e != api.ErrGone || f != (api.Field{}) {
		t.Error("Get(0):", f, e)
	}
	if f, e := x.Get(1); e != api.OK || f != (api.Field{Name: "c", Value: "d"}) {
		t.Error("Get(1):", f, e)
	}
	if f, e := x.Get(2); e != api.OK || f != (api.Field{Name: "e", Value: "f"}) {
		t.Error("Get(2):", f, e)
	}
	if x.Size() != 68 || x.Came() != 3 || x.Gone() != 1 {
		t.Error("of three:", x.Size(), x.Came(), x.Gone())
	}
}

// P19.3, P19.4: a table of RFC 9204 (B.2 to B.5), whose sizes it tells.
func TestRow(t *testing.T) {
	x := newTable(t, 220)
	for i, c := range []struct {
		f    api.Field
		size int
		gone uint64
	}{
		{api.Field{Name: ":authority", Value: "www.example.com"}, 57, 0},
		{api.Field{Name: ":path", Value: "/sample/path"}, 106, 0},
		{api.Field{Name: "custom-key", Value: "custom-value"}, 160, 0},
		{api.Field{Name: ":authority", Value: "www.example.com"}, 217, 0},
		{api.Field{Name: "custom-key", Value: "custom-value2"}, 215, 1},
	} {
		if e := x.Add(c.f); e != api.OK || x.Size() != c.size || x.Gone() != c.gone || x.Came() != uint64(i+1) {
			t.Errorf("Add(%q): error %d, %d bytes, %d came, %d went", c.f, e, x.Size(), x.Came(), x.Gone())
		}
		if f, e := x.Get(uint64(i)); f != c.f || e != api.OK {
			t.Errorf("Get(%d): %q, error %d", i, f, e)
		}
	}
}

// P19.2: each room that may be, and a table without fields for it, which has just that room.
func TestNew(t *testing.T) {
	for room := range 4097 {
		x := newTable(t, room)
		same(t, x, &plain{room: room})
		if e := x.Add(sized("", max(room+1, 32))); e != api.ErrFull {
			t.Errorf("room %d, a field of a byte more: error %d", room, e)
		}
		same(t, x, &plain{room: room})
		if room < 32 {
			continue
		}
		f := sized("", room)
		if e := x.Add(f); e != api.OK {
			t.Errorf("room %d, a field of just that size: error %d", room, e)
		}
		same(t, x, &plain{room: room, all: []api.Field{f}})
	}
}

// P19.2, R2: rooms that may not be.
func TestNewWrong(t *testing.T) {
	for _, room := range []int{-1, -2, -32, -4096, 4097, 4098, 8192, 1 << 31, -1 << 31, 1<<63 - 1, -1 << 63} {
		if x, e := table.New(room); x != nil || e != api.ErrArg {
			t.Errorf("New(%d): %v, error %d", room, x, e)
		}
	}
}

// P19.3: a room of 0 has nothing, not even the field without bytes.
func TestNoRoom(t *testing.T) {
	x := newTable(t, 0)
	for _, f := range []api.Field{{}, {Name: "a"}, {Value: "b"}, sized("c", 4096), sized("d", 4097)} {
		if e := x.Add(f); e != api.ErrFull {
			t.Errorf("Add(%.40q): error %d", f, e)
		}
		same(t, x, &plain{})
	}
	if e := x.Room(32); e != api.OK {
		t.Error("Room(32):", e)
	}
	if e := x.Add(api.Field{}); e != api.OK || x.Size() != 32 || x.Came() != 1 {
		t.Error("Add:", e, x.Size(), x.Came())
	}
}

// P19.3: the size hangs on the bytes of name and value alike, whatever they are.
func TestSizes(t *testing.T) {
	for _, c := range []struct {
		f    api.Field
		size int
	}{
		{api.Field{}, 32},
		{api.Field{Name: "a"}, 33},
		{api.Field{Value: "a"}, 33},
		{api.Field{Name: "abc", Value: "de"}, 37},
		{api.Field{Name: "é", Value: "→"}, 37},
		{api.Field{Name: "\xff\x00", Value: "\x80"}, 35},
		{api.Field{Name: strings.Repeat("a", 4064)}, 4096},
		{api.Field{Value: strings.Repeat("a", 4064)}, 4096},
		{api.Field{Name: strings.Repeat("a", 2000), Value: strings.Repeat("b", 2064)}, 4096},
	} {
		x := newTable(t, c.size)
		if e := x.Add(c.f); e != api.OK || x.Size() != c.size {
			t.Errorf("%.40q: error %d, %d bytes", c.f, e, x.Size())
		}
		if f, e := x.Get(0); e != api.OK || f != c.f {
			t.Errorf("%.40q: error %d", c.f, e)
		}
		x = newTable(t, c.size-1)
		if e := x.Add(c.f); e != api.ErrFull || x.Size() != 0 || x.Came() != 0 {
			t.Errorf("%.40q, a byte less: error %d, %d bytes", c.f, e, x.Size())
		}
	}
}

// four: a table with just room for its fields, of 40, 50, 60 and 70 bytes.
func four(t *testing.T) (*table.Table, *plain) {
	x, p := newTable(t, 220), &plain{room: 220}
	for i := range 4 {
		f := sized(strconv.Itoa(i), 40+10*i)
		if e := x.Add(f); e != api.OK || p.add(f) != api.OK {
			t.Fatal("Add:", e)
		}
	}
	same(t, x, p)
	return x, p
}

// P19.3, P19.5: a field makes as many of the eldest go as it has to: just one, several, all of the others; one that is greater than the room, none.
func TestAddGoes(t *testing.T) {
	for _, c := range []struct{ size, gone int }{
		{32, 1}, {39, 1}, {40, 1}, {41, 2}, {90, 2}, {91, 3}, {150, 3}, {151, 4}, {219, 4}, {220, 4},
	} {
		x, p := four(t)
		f := sized("f", max(33, c.size))
		if c.size == 32 {
			f = api.Field{}
		}
		if e := x.Add(f); e != api.OK || p.add(f) != api.OK || x.Gone() != uint64(c.gone) {
			t.Errorf("of %d bytes: error %d, %d went", c.size, e, x.Gone())
		}
		if got, e := x.Get(4); e != api.OK || got != f {
			t.Errorf("of %d bytes: %q, error %d", c.size, got, e)
		}
		same(t, x, p)
	}
	for _, size := range []int{221, 222, 4096, 4097, 1 << 20} {
		x, p := four(t)
		if e := x.Add(sized("f", size)); e != api.ErrFull {
			t.Errorf("of %d bytes: error %d", size, e)
		}
		same(t, x, p)
	}
}

// P19.3: where there is room for it already, a field makes none go.
func TestAddStays(t *testing.T) {
	for spare := 32; spare <= 300; spare += 4 {
		x, p := four(t)
		if e := x.Room(220 + spare); e != api.OK || p.widen(220+spare) != api.OK {
			t.Fatal("Room:", e)
		}
		f := sized("", spare)
		if e := x.Add(f); e != api.OK || p.add(f) != api.OK || x.Gone() != 0 || x.Size() != 220+spare {
			t.Errorf("of %d bytes: error %d, %d went, %d bytes", spare, e, x.Gone(), x.Size())
		}
		same(t, x, p)
		f = sized("", 32)
		if e := x.Add(f); e != api.OK || p.add(f) != api.OK || x.Gone() != 1 {
			t.Errorf("one more: error %d, %d went", e, x.Gone())
		}
		same(t, x, p)
	}
}

// P19.3, P19.5: each room: just the size of what is there, one below it, 0, the others; those that went stay away when it is greater again.
func TestRoom(t *testing.T) {
	for room := range 4097 {
		x, p := four(t)
		if e := x.Room(room); e != api.OK || p.widen(room) != api.OK {
			t.Errorf("Room(%d): error %d", room, e)
		}
		same(t, x, p)
		gone := x.Gone()
		if e := x.Room(4096); e != api.OK || p.widen(4096) != api.OK || x.Gone() != gone {
			t.Errorf("Room(%d), then wide: error %d, %d went, then %d", room, e, gone, x.Gone())
		}
		f := sized("f", 1000)
		if e := x.Add(f); e != api.OK || p.add(f) != api.OK || x.Gone() != gone {
			t.Errorf("Room(%d), then wide, Add: error %d, %d went, then %d", room, e, gone, x.Gone())
		}
		same(t, x, p)
	}
	for _, c := range []struct {
		room int
		gone uint64
	}{{4096, 0}, {221, 0}, {220, 0}, {219, 1}, {180, 1}, {179, 2}, {130, 2}, {129, 3}, {70, 3}, {69, 4}, {1, 4}, {0, 4}} {
		x, _ := four(t)
		if e := x.Room(c.room); e != api.OK || x.Gone() != c.gone || x.Came() != 4 {
			t.Errorf("Room(%d): error %d, %d went, %d came", c.room, e, x.Gone(), x.Came())
		}
	}
}

// P19.3: the room is the one that was told last, for what comes after.
func TestRoomHolds(t *testing.T) {
	x, p := four(t)
	for _, room := range []int{100, 0, 31, 32, 33, 4096, 70, 4095} {
		if e := x.Room(room); e != api.OK || p.widen(room) != api.OK {
			t.Fatalf("Room(%d): error %d", room, e)
		}
		if e := x.Add(sized("", max(32, room+1))); e != api.ErrFull {
			t.Errorf("room %d, a byte more: error %d", room, e)
		}
		same(t, x, p)
		if room >= 32 {
			f := sized("", room)
			if e := x.Add(f); e != api.OK || p.add(f) != api.OK {
				t.Errorf("room %d, just that: error %d", room, e)
			}
			same(t, x, p)
		}
	}
}

// P19.3, R2: a room that may not be changes nothing, the room neither.
func TestRoomWrong(t *testing.T) {
	for _, n := range []int{-1, -2, -4096, 4097, 4098, 1 << 31, -1 << 31, 1<<63 - 1, -1 << 63} {
		x, p := four(t)
		if e := x.Room(n); e != api.ErrArg {
			t.Errorf("Room(%d): error %d", n, e)
		}
		same(t, x, p)
		if e := x.Add(sized("", 221)); e != api.ErrFull {
			t.Errorf("Room(%d), a byte more: error %d", n, e)
		}
		f := sized("", 220)
		if e := x.Add(f); e != api.OK || p.add(f) != api.OK {
			t.Errorf("Room(%d), just the room: error %d", n, e)
		}
		same(t, x, p)
	}
}

// P19.4: the first that is there, the last, the one that went last, the one that comes next, the greatest number that there is.
func TestGet(t *testing.T) {
	x, _ := four(t)
	if e := x.Add(sized("f", 90)); e != api.OK || x.Gone() != 2 || x.Came() != 5 || x.Size() != 220 {
		t.Fatal("Add:", e, x.Gone(), x.Came(), x.Size())
	}
	for n, want := range map[uint64]api.Field{2: sized("2", 60), 3: sized("3", 70), 4: sized("f", 90)} {
		if f, e := x.Get(n); e != api.OK || f != want {
			t.Errorf("Get(%d): %q, error %d", n, f, e)
		}
	}
	for _, n := range []uint64{0, 1, 5, 6, 257, 258, 1 << 32, 1<<32 + 2, 1<<62 - 1, 1 << 63, 1<<63 + 2, 1<<64 - 1, 1<<64 - 2} {
		if f, e := x.Get(n); e != api.ErrGone || f != (api.Field{}) {
			t.Errorf("Get(%d): %q, error %d", n, f, e)
		}
	}
}

// P19.4: asking changes nothing, and what is there can be asked for again.
func TestAskedAgain(t *testing.T) {
	x, p := four(t)
	for range 3 {
		same(t, x, p)
	}
}

// P19.3, P19.4: a field may be there several times; each counts.
func TestTwice(t *testing.T) {
	x := newTable(t, 170)
	f := api.Field{Name: "a", Value: "b"}
	for i := range 7 {
		if e := x.Add(f); e != api.OK || x.Came() != uint64(i+1) || x.Size() != 34*min(i+1, 5) || x.Gone() != uint64(max(0, i-4)) {
			t.Errorf("the %d-th: error %d, %d came, %d went, %d bytes", i, e, x.Came(), x.Gone(), x.Size())
		}
	}
}

// P19.3, P19.5: fields without bytes, of which there are as many as can be; very many come, so that each place is used again and again.
func TestMany(t *testing.T) {
	for _, room := range []int{32, 64, 96, 4063, 4064, 4095, 4096} {
		x := newTable(t, room)
		for n := range 2000 {
			if e := x.Add(api.Field{}); e != api.OK {
				t.Fatalf("room %d, the %d-th: error %d", room, n, e)
			}
			there := min(n+1, room/32)
			if x.Size() != 32*there || x.Came() != uint64(n+1) || x.Gone() != uint64(n+1-there) {
				t.Fatalf("room %d, the %d-th: %d bytes, %d came, %d went", room, n, x.Size(), x.Came(), x.Gone())
			}
		}
	}
	x, p := newTable(t, 4096), &plain{room: 4096}
	for n := range 2000 {
		f := api.Field{Name: strconv.Itoa(n % 1000)}
		if e := x.Add(f); e != api.OK || p.add(f) != api.OK {
			t.Fatalf("the %d-th: error %d", n, e)
		}
		same(t, x, p)
	}
}

// R3: no table, and one that New did not make: ErrNil, and zero values, whatever is asked, and nothing is done.
func TestNone(t *testing.T) {
	for name, x := range map[string]*table.Table{"no table": nil, "a zero struct": {}, "new": new(table.Table)} {
		for range 2 {
			for _, f := range []api.Field{{}, {Name: "a", Value: "b"}, sized("c", 5000)} {
				if e := x.Add(f); e != api.ErrNil {
					t.Errorf("%s: Add: error %d", name, e)
				}
			}
			for _, n := range []int{0, 1, 100, 4096, -1, 4097} {
				if e := x.Room(n); e != api.ErrNil {
					t.Errorf("%s: Room(%d): error %d", name, n, e)
				}
			}
			for _, n := range []uint64{0, 1, 1<<64 - 1} {
				if f, e := x.Get(n); e != api.ErrNil || f != (api.Field{}) {
					t.Errorf("%s: Get(%d): %q, error %d", name, n, f, e)
				}
			}
			if x.Came() != 0 || x.Gone() != 0 || x.Size() != 0 {
				t.Errorf("%s: %d came, %d went, %d bytes", name, x.Came(), x.Gone(), x.Size())
			}
		}
	}
}

// R5: two tables share nothing.
func TestApart(t *testing.T) {
	x, p := four(t)
	y, q := four(t)
	for n := range 300 {
		f := sized("y", 40+n%50)
		if e := y.Add(f); e != api.OK || q.add(f) != api.OK {
			t.Fatal("Add:", e)
		}
	}
	same(t, x, p)
	same(t, y, q)
	if e := y.Room(0); e != api.OK || q.widen(0) != api.OK {
		t.Fatal("Room:", e)
	}
	same(t, x, p)
	same(t, y, q)
}

// R5: tables that are used at the same time, each by one, hang on nothing of the others.
func TestAtOnce(t *testing.T) {
	var group sync.WaitGroup
	for i := range 8 {
		group.Go(func() {
			x, e := table.New(34 * (i + 1))
			for n := range 1000 {
				if e == api.OK {
					e = x.Add(api.Field{Name: strconv.Itoa(i), Value: strconv.Itoa(n % 10)})
				}
			}
			if e != api.OK || x.Came() != 1000 || x.Gone() != uint64(1000-i-1) {
				t.Errorf("table %d: error %d, %d came, %d went", i, e, x.Came(), x.Gone())
			}
		})
	}
	group.Wait()
}
