package qpack

import (
	"testing"

	"mailcoach/api"
)

// P20.3, P20.4, P20.5: with whatever byte something begins, one row of its table has it, and no other.
func TestRows(t *testing.T) {
	oneRow(t, instructions())
	oneRow(t, lines())
	oneRow(t, sayings())
}

// oneRow: each byte has one row.
func oneRow[T any](t *testing.T, rows []row[T]) {
	t.Helper()
	for b := range 256 {
		n := 0
		for _, x := range rows {
			if byte(b)>>x.bits == x.first>>x.bits {
				n++
			}
			if x.do == nil || x.first&(1<<x.bits-1) != 0 {
				t.Fatalf("a row of %x, %d bits", x.first, x.bits)
			}
		}
		if n != 1 {
			t.Fatalf("%08b has %d rows", b, n)
		}
	}
}

// P20.2, P20.3: of what was told as got nothing is kept; neither of a stream that is not looked at, nor of a section that needs nothing.
func TestKeptOfStreams(t *testing.T) {
	e, _ := NewEncoder(4096, 2)
	for i := range 300 {
		id := uint64(4 * (i % 5))
		if _, _, f := e.Put(id, []api.Field{{Name: "some", Value: string(rune('a' + i%20))}}); f != api.OK {
			t.Fatal("Put:", f)
		}
		said := []byte{0x40 | byte(id)}
		if s := e.heard.streams[id]; len(s.left) > 0 && i%2 == 0 {
			said = []byte{0x80 | byte(id)}
		}
		if n, f := e.Hear(said); n != 1 || f != api.OK {
			t.Fatal("Hear:", n, f)
		}
		if len(e.heard.streams) > 0 || e.heard.waiting != 0 {
			t.Fatalf("kept: %v, %d", e.heard.streams, e.heard.waiting)
		}
	}
	if _, _, f := e.Put(0, []api.Field{{Name: ":method", Value: "GET"}}); f != api.OK || len(e.heard.streams) > 0 {
		t.Fatalf("kept of what needs nothing: %v, error %d", e.heard.streams, f)
	}
}

// P20.4: what a decoder keeps of its entries is those that are there.
func TestKeptOfEntries(t *testing.T) {
	d, _ := NewDecoder(100, 0)
	b := []byte{0x3f, 69}
	for range 100 {
		b = append(b, 0x41, 'a', 0)
		if n, f := d.Table(b); n != len(b) || f != api.OK {
			t.Fatal("Table:", n, f)
		}
		b = b[:0]
		if d.entries.came()-d.entries.gone() > 3 || d.entries.table.Came() > 4 {
			t.Fatalf("came: %d, gone: %d, in the table %d", d.entries.came(), d.entries.gone(), d.entries.table.Came())
		}
	}
	if d.entries.came() != 100 || d.entries.gone() != 97 {
		t.Fatal("came, gone:", d.entries.came(), d.entries.gone())
	}
}

// P20.2: there is room for a field just when the others that may go make it.
func TestFits(t *testing.T) {
	e, _ := NewEncoder(102, 0)
	for _, v := range []string{"1", "2", "3"} {
		if f := e.entries.table.Add(api.Field{Name: "n", Value: v}); f != api.OK {
			t.Fatal("Add:", f)
		}
	}
	for stay := range uint64(4) {
		for size := 32; size < 110; size++ {
			f := api.Field{Name: string(make([]byte, size-32))}
			if got, want := e.entries.fits(f, stay), size <= 34*int(stay); got != want {
				t.Fatalf("%d bytes, %d may go: %v", size, stay, got)
			}
		}
	}
}

// P20.5: of a section with too much, what is too much is not kept.
func TestTooMuchIsNotKept(t *testing.T) {
	var x fields
	for range 1000 {
		if f := x.take(api.Field{Name: "n"}, true); f != api.OK {
			t.Fatal("take:", f)
		}
	}
	if x.many != 1000 || x.bytes != 1000 || len(x.list) != api.MaxFields {
		t.Fatal("fields, bytes, kept:", x.many, x.bytes, len(x.list))
	}
	x = fields{}
	for range 3 {
		x.take(api.Field{Value: string(make([]byte, api.MaxText))}, true)
	}
	if x.many != 3 || x.bytes != 3*api.MaxText || len(x.list) != 1 {
		t.Fatal("fields, bytes, kept:", x.many, x.bytes, len(x.list))
	}
}
