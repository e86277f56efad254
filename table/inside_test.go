package table

import (
	"math/rand"
	"strings"
	"testing"

	"mailcoach/api"
)

// P19.5: what a table keeps is those that are there and nothing else: at the other places nothing stands, and those that are there fill at most half of all.
func TestKept(t *testing.T) {
	r := rand.New(rand.NewSource(19))
	for range 50 {
		x, e := New(r.Intn(api.MaxTable + 1))
		if e != api.OK {
			t.Fatal("New:", e)
		}
		for range 1000 {
			if r.Intn(50) == 0 {
				e = x.Room(r.Intn(api.MaxTable + 1))
			} else if f := (api.Field{Name: "a", Value: strings.Repeat("v", r.Intn(9))}); size(f) <= x.room {
				e = x.Add(f)
			}
			if e != api.OK {
				t.Fatal("error", e)
			}
			looked(t, x)
		}
	}
}

// looked: the places of a table, one by one.
func looked(t *testing.T, x *Table) {
	t.Helper()
	if x.from > x.to || x.to > len(x.home) || x.to-x.from > most {
		t.Fatalf("places %d to %d", x.from, x.to)
	}
	for i, f := range x.home {
		if there := x.from <= i && i < x.to; there != (f != api.Field{}) {
			t.Fatalf("place %d of those from %d to %d: %q", i, x.from, x.to, f)
		}
	}
}

// P19.4: who adds to the list of those that are there does not write into the table.
func TestThere(t *testing.T) {
	x, _ := New(api.MaxTable)
	for _, name := range []string{"a", "b", "c"} {
		if e := x.Add(api.Field{Name: name}); e != api.OK {
			t.Fatal("Add:", e)
		}
	}
	l := x.there()
	if len(l) != 3 || cap(l) != 3 {
		t.Fatal("fields, places:", len(l), cap(l))
	}
	_ = append(l, api.Field{Name: "d"})
	looked(t, x)
}
