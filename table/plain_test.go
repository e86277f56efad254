package table_test

import (
	"math/rand"
	"strings"
	"testing"

	"mailcoach/api"
	"mailcoach/table"
)

// The chapter's words once more, to hold the package's answers against.

// plain: all fields that ever came, of which the first ones went.
type plain struct {
	all  []api.Field
	gone int
	room int
}

// bytes: the sizes of some fields.
func bytes(l []api.Field) (n int) {
	for _, f := range l {
		n += len([]byte(f.Name)) + len([]byte(f.Value)) + 32
	}
	return n
}

// fit: the eldest fields go, one by one, until the others have room.
func (p *plain) fit() {
	for bytes(p.all[p.gone:]) > p.room {
		p.gone++
	}
}

func (p *plain) add(f api.Field) api.Errno {
	if bytes([]api.Field{f}) > p.room {
		return api.ErrFull
	}
	p.all = append(p.all, f)
	p.fit()
	return api.OK
}

func (p *plain) widen(n int) api.Errno {
	if n < 0 || n > 4096 {
		return api.ErrArg
	}
	p.room = n
	p.fit()
	return api.OK
}

// newTable: a table, which New must make.
func newTable(t *testing.T, room int) *table.Table {
	t.Helper()
	x, e := table.New(room)
	if x == nil || e != api.OK {
		t.Fatalf("New(%d): %v, error %d", room, x, e)
	}
	return x
}

// same: does a table tell what it should, of each field that ever came, and of those that did not?
func same(t *testing.T, x *table.Table, p *plain) {
	t.Helper()
	if x.Came() != uint64(len(p.all)) || x.Gone() != uint64(p.gone) || x.Size() != bytes(p.all[p.gone:]) {
		t.Fatalf("%d came, %d went, %d bytes; not %d, %d, %d", x.Came(), x.Gone(), x.Size(), len(p.all), p.gone, bytes(p.all[p.gone:]))
	}
	for n, f := range p.all[max(0, p.gone-300):] {
		n += max(0, p.gone-300)
		got, e := x.Get(uint64(n))
		switch {
		case n < p.gone && (e != api.ErrGone || got != (api.Field{})):
			t.Fatalf("Get(%d), which went: %q, error %d", n, got, e)
		case n >= p.gone && (e != api.OK || got != f):
			t.Fatalf("Get(%d): %q, error %d, not %q", n, got, e, f)
		}
	}
	for _, n := range []uint64{0, 1, 2, 127, 128, 129, 255, 256, 257} {
		if f, e := x.Get(uint64(len(p.all)) + n); e != api.ErrGone || f != (api.Field{}) {
			t.Fatalf("Get of the %d-th, %d came: %q, error %d", uint64(len(p.all))+n, len(p.all), f, e)
		}
	}
	for _, n := range []uint64{1 << 31, 1 << 32, 1<<62 - 1, 1 << 62, 1<<63 - 1, 1 << 63, 1<<64 - 1} {
		if f, e := x.Get(n); e != api.ErrGone || f != (api.Field{}) {
			t.Fatalf("Get(%d): %q, error %d", n, f, e)
		}
	}
}

// someText: of at most so many bytes.
func someText(r *rand.Rand, most int) string {
	b := make([]byte, r.Intn(most+1))
	r.Read(b)
	return string(b)
}

// someField: small ones, ones just as great as the room, ones too great for it, ones that take much of it.
func someField(r *rand.Rand, room int) api.Field {
	switch r.Intn(8) {
	case 0:
		return api.Field{}
	case 1:
		return ofSize(r, max(32, room+r.Intn(5)-2))
	case 2:
		return ofSize(r, 32+r.Intn(max(1, room)))
	case 3:
		return ofSize(r, 32+r.Intn(5000))
	case 4:
		return ofSize(r, 32+r.Intn(200))
	}
	return api.Field{Name: someText(r, 6), Value: someText(r, 12)}
}

// ofSize: a field of a size, its texts' bytes divided somewhere.
func ofSize(r *rand.Rand, size int) api.Field {
	b := make([]byte, size-32)
	r.Read(b)
	cut := r.Intn(len(b) + 1)
	return api.Field{Name: string(b[:cut]), Value: string(b[cut:])}
}

// sized: a field of a size that begins with a text.
func sized(text string, size int) api.Field {
	return api.Field{Name: text, Value: strings.Repeat("v", size-32-len(text))}
}
