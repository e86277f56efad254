package qpack_test

import (
	"slices"
	"testing"

	"mailcoach/api"
	"mailcoach/qpack"
)

// cancels: Cancel does it.
func cancels(t *testing.T, d *qpack.Decoder, id uint64) {
	t.Helper()
	if e := d.Cancel(id); e != api.OK {
		t.Fatalf("Cancel(%d): error %d", id, e)
	}
}

// P20.6: nothing is told where nothing came about.
func TestSayNothing(t *testing.T) {
	d := newDecoder(t, 4096, 1)
	says(t, d, "")
	fill(t, d, 4096)
	says(t, d, "")
	gets(t, d, 0, []byte{0, 0, 0xd1}, field(":method", "GET"))
	getsNot(t, d, 0, []byte{0}, api.ErrForm)
	getsNot(t, d, 0, []byte{2, 0}, api.ErrWait)
	getsNot(t, d, 4, []byte{2, 0}, api.ErrFull)
	refuses(t, d, []byte{0}, api.ErrForm)
	says(t, d, "")
}

// P20.6: in the order in which it came about, then how many came; each once.
func TestSayOrder(t *testing.T) {
	d := withFive(t, 4)
	cancels(t, d, 12)
	gets(t, d, 8, []byte{2, 0, 0x80}, field("a", "1"))
	gets(t, d, 4, []byte{4, 0, 0x80}, field("c", "3"))
	cancels(t, d, 8)
	gets(t, d, 8, []byte{0, 0})
	gets(t, d, 4, []byte{3, 0, 0x80}, field("b", "2"))
	cancels(t, d, 12)
	says(t, d, "4c 88 84 48 84 4c 02")
	says(t, d, "")
	done(t, d, comes("f", "6"), 4)
	gets(t, d, 4, []byte{2, 0, 0x80}, field("a", "1"))
	says(t, d, "84 01")
	says(t, d, "")
}

// P20.6: how many came of which it was not told: neither by that number, nor by a section that needed them, whichever entries its lines have.
func TestSayCame(t *testing.T) {
	d := newDecoder(t, 4096, 4)
	fill(t, d, 4096, five()...)
	says(t, d, "05")
	done(t, d, []byte{0, 0, 0}, 3)
	says(t, d, "03")
	done(t, d, []byte{0, 0, 0}, 3)                      // 11
	gets(t, d, 0, []byte{11, 0, 0x87}, field("c", "3")) // 10 must have come, of which the third is named
	says(t, d, "80 01")
	done(t, d, []byte{0, 0}, 2)
	gets(t, d, 0, []byte{3, 0, 0x80}, field("b", "2")) // which needs none that is not told
	says(t, d, "80 02")
	done(t, d, []byte{0}, 1)
	gets(t, d, 0, []byte{15, 0}) // 14 must have come, and no line has any
	says(t, d, "80")
	gets(t, d, 0, []byte{15, 0})
	gets(t, d, 4, []byte{15, 0})
	says(t, d, "80 84")
	done(t, d, slices.Repeat([]byte{0}, 62), 62)
	says(t, d, "3e")
	done(t, d, slices.Repeat([]byte{0}, 63), 63)
	says(t, d, "3f 00")
	done(t, d, slices.Repeat([]byte{0}, 1000), 1000)
	says(t, d, "3f a9 07")
	refuses(t, d, []byte{0, 0, 0, 0x1f, 0x80, 0x20}, api.ErrForm)
	says(t, d, "")
}

// P20.6: entries that came and went came.
func TestSayWent(t *testing.T) {
	d := newDecoder(t, 34, 0)
	fill(t, d, 34, five()...)
	done(t, d, roomFor(0), 1)
	says(t, d, "05")
}

// P20.6: Cancel of any id, of streams that wait and that do not.
func TestCancel(t *testing.T) {
	d := newDecoder(t, 4096, 2)
	var none *qpack.Decoder
	for _, id := range []uint64{api.MaxNumber + 1, 1 << 63, 1<<64 - 1} {
		if e := d.Cancel(id); e != api.ErrArg {
			t.Fatalf("Cancel(%d): error %d", id, e)
		}
		if e := none.Cancel(id); e != api.ErrNil {
			t.Fatalf("Cancel(%d) of none: error %d", id, e)
		}
	}
	says(t, d, "")
	want := []byte{}
	for _, id := range []uint64{0, 62, 63, 64, 190, 191, 1 << 32, api.MaxNumber} {
		cancels(t, d, id)
		want = append(want, number(0x40, 6, id)...)
	}
	if s := d.Say(); !slices.Equal(s, want) {
		t.Fatalf("Say: %x, not %x", s, want)
	}
	getsNot(t, d, 0, []byte{2, 0}, api.ErrWait)
	getsNot(t, d, 4, []byte{2, 0}, api.ErrWait)
	getsNot(t, d, 8, []byte{2, 0}, api.ErrFull)
	cancels(t, d, 8)
	getsNot(t, d, 8, []byte{2, 0}, api.ErrFull)
	cancels(t, d, 4)
	getsNot(t, d, 8, []byte{2, 0}, api.ErrWait)
	getsNot(t, d, 4, []byte{2, 0}, api.ErrFull)
	says(t, d, "48 44")
}

// R3: calls of what is not there.
func TestNotThere(t *testing.T) {
	for _, d := range []*qpack.Decoder{nil, {}} {
		for range 2 {
			refuses(t, d, nil, api.ErrNil)
			refuses(t, d, []byte{0x20}, api.ErrNil)
			getsNot(t, d, 0, []byte{0, 0, 0xd1}, api.ErrNil)
			getsNot(t, d, api.MaxNumber+1, nil, api.ErrNil)
			if e := d.Cancel(0); e != api.ErrNil {
				t.Fatal("Cancel:", e)
			}
			says(t, d, "")
		}
	}
	for _, e := range []*qpack.Encoder{nil, {}} {
		for range 2 {
			putsNot(t, e, 0, nil, api.ErrNil)
			putsNot(t, e, api.MaxNumber+1, make([]api.Field, 257), api.ErrNil)
			for _, b := range [][]byte{nil, {0x40}, {0}} {
				if n, f := e.Hear(b); n != 0 || f != api.ErrNil {
					t.Fatal("Hear:", n, f)
				}
			}
		}
	}
}
