package qpack_test

import (
	"bytes"
	"encoding/hex"
	"math/rand"
	"slices"
	"strings"
	"testing"

	"mailcoach/api"
	"mailcoach/qpack"
	"mailcoach/text"
	"mailcoach/varint"
)

// unhex: bytes from hexadecimal, with blanks between.
func unhex(t *testing.T, s string) []byte {
	t.Helper()
	b, e := hex.DecodeString(strings.ReplaceAll(s, " ", ""))
	if e != nil {
		t.Fatal(e)
	}
	return b
}

// newDecoder: one that may be.
func newDecoder(t *testing.T, room, waits int) *qpack.Decoder {
	t.Helper()
	d, e := qpack.NewDecoder(room, waits)
	if d == nil || e != api.OK {
		t.Fatalf("NewDecoder(%d, %d): %v, %d", room, waits, d, e)
	}
	return d
}

// newEncoder: one that may be.
func newEncoder(t *testing.T, room, waits int) *qpack.Encoder {
	t.Helper()
	e, f := qpack.NewEncoder(room, waits)
	if e == nil || f != api.OK {
		t.Fatalf("NewEncoder(%d, %d): %v, %d", room, waits, e, f)
	}
	return e
}

// number behind what stands above so many bits.
func number(first byte, bits int, n uint64) []byte {
	b, e := varint.PutPrefix(first, bits, n)
	if e != api.OK {
		panic(e)
	}
	return b
}

// few: a text in the code of few bits where that is shorter; plainly: one as it is.
func few(first byte, bits int, s string) []byte {
	b, e := text.Put(first, bits, s)
	if e != api.OK {
		panic(e)
	}
	return b
}

func plainly(first byte, bits int, s string) []byte {
	return append(number(first, bits-1, uint64(len(s))), s...)
}

// all of these bytes, one behind the other.
func all(l ...[]byte) []byte { return slices.Concat(l...) }

// roomFor so many bytes; comes: a field whose name is told; both as instructions.
func roomFor(n uint64) []byte { return number(0x20, 5, n) }

func comes(name, value string) []byte {
	return all(plainly(0x40, 6, name), plainly(0, 8, value))
}

// field of two texts.
func field(name, value string) api.Field { return api.Field{Name: name, Value: value} }

// fill: a decoder's table has room for so much, and these fields come.
func fill(t *testing.T, d *qpack.Decoder, room uint64, l ...api.Field) {
	t.Helper()
	b := roomFor(room)
	for _, f := range l {
		b = append(b, comes(f.Name, f.Value)...)
	}
	done(t, d, b, len(b))
}

// done: Table does so many of these bytes.
func done(t *testing.T, d *qpack.Decoder, b []byte, want int) {
	t.Helper()
	if n, e := d.Table(b); n != want || e != api.OK {
		t.Fatalf("Table(%x): %d, %d, not %d", b, n, e, want)
	}
}

// refuses: Table refuses these bytes with that error.
func refuses(t *testing.T, d *qpack.Decoder, b []byte, want api.Errno) {
	t.Helper()
	if n, e := d.Table(b); n != 0 || e != want {
		t.Fatalf("Table(%x): %d, error %d, not %d", b, n, e, want)
	}
}

// gets: Get answers these fields.
func gets(t *testing.T, d *qpack.Decoder, id uint64, section []byte, want ...api.Field) {
	t.Helper()
	if l, e := d.Get(id, section); e != api.OK || !slices.Equal(l, want) {
		t.Fatalf("Get(%d, %x): %q, error %d, not %q", id, section, l, e, want)
	}
}

// getsNot: Get answers that error.
func getsNot(t *testing.T, d *qpack.Decoder, id uint64, section []byte, want api.Errno) {
	t.Helper()
	if l, e := d.Get(id, section); len(l) != 0 || e != want {
		t.Fatalf("Get(%d, %x): %q, error %d, not %d", id, section, l, e, want)
	}
}

// says: Say answers these bytes, in hexadecimal.
func says(t *testing.T, d *qpack.Decoder, want string) {
	t.Helper()
	if b := d.Say(); !bytes.Equal(b, unhex(t, want)) {
		t.Fatalf("Say: %x, not %s", b, want)
	}
}

// hears: Hear hears so many of these bytes.
func hears(t *testing.T, e *qpack.Encoder, b []byte, want int) {
	t.Helper()
	if n, f := e.Hear(b); n != want || f != api.OK {
		t.Fatalf("Hear(%x): %d, error %d, not %d", b, n, f, want)
	}
}

// hearsNot: Hear answers ErrForm.
func hearsNot(t *testing.T, e *qpack.Encoder, b []byte) {
	t.Helper()
	if n, f := e.Hear(b); n != 0 || f != api.ErrForm {
		t.Fatalf("Hear(%x): %d, error %d, not ErrForm", b, n, f)
	}
}

// puts: what Put makes of these fields.
func puts(t *testing.T, e *qpack.Encoder, id uint64, l ...api.Field) (table, section []byte) {
	t.Helper()
	table, section, f := e.Put(id, l)
	if f != api.OK {
		t.Fatalf("Put(%d, %q): error %d", id, l, f)
	}
	return table, section
}

// putsNot: Put answers that error.
func putsNot(t *testing.T, e *qpack.Encoder, id uint64, l []api.Field, want api.Errno) {
	t.Helper()
	if table, section, f := e.Put(id, l); len(table) != 0 || len(section) != 0 || f != want {
		t.Fatalf("Put(%d, %d fields): %x, %x, error %d, not %d", id, len(l), table, section, f, want)
	}
}

// someText: a drawn one: one of few, so that they come again, or any bytes.
func someText(r *rand.Rand) string {
	switch r.Intn(8) {
	case 0:
		return ""
	case 1:
		b := make([]byte, r.Intn(40))
		r.Read(b)
		return string(b)
	case 2:
		return strings.Repeat(string(rune('a'+r.Intn(3))), r.Intn(300))
	}
	return []string{"a", "b", "cookie", "some", "www.example.com", "/", "x-long-name-of-a-field", "~~~~"}[r.Intn(8)]
}

// someField: a drawn one: a fixed one, one of a fixed one's name, or any.
func someField(r *rand.Rand) api.Field {
	switch r.Intn(4) {
	case 0:
		return []api.Field{field(":method", "GET"), field(":path", "/"), field(":authority", ""), field("x-frame-options", "sameorigin")}[r.Intn(4)]
	case 1:
		return field([]string{":path", "cookie", "x-frame-options", "age"}[r.Intn(4)], someText(r))
	}
	return field(someText(r), someText(r))
}

// someFields: up to so many.
func someFields(r *rand.Rand, most int) (l []api.Field) {
	for range r.Intn(most + 1) {
		l = append(l, someField(r))
	}
	return l
}
