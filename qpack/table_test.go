package qpack_test

import (
	"strings"
	"testing"

	"mailcoach/api"
	"mailcoach/qpack"
)

// P20.1: rooms and waits that may be, and that may not.
func TestNew(t *testing.T) {
	for _, room := range []int{0, 1, 31, 32, 33, 4095, 4096, -1, -4096, 4097, 8192, 1<<63 - 1, -1 << 63} {
		for _, waits := range []int{0, 1, 63, 64, -1, 65, 1<<63 - 1, -1 << 63} {
			want := api.OK
			if room < 0 || room > 4096 || waits < 0 || waits > 64 {
				want = api.ErrArg
			}
			if e, f := qpack.NewEncoder(room, waits); f != want || (e != nil) != (want == api.OK) {
				t.Errorf("NewEncoder(%d, %d): %v, error %d", room, waits, e, f)
			}
			if d, f := qpack.NewDecoder(room, waits); f != want || (d != nil) != (want == api.OK) {
				t.Errorf("NewDecoder(%d, %d): %v, error %d", room, waits, d, f)
			}
		}
	}
}

// P20.1: a new decoder's table is empty and has room for nothing; a new encoder's is empty.
func TestNewIsEmpty(t *testing.T) {
	for _, room := range []int{0, 31, 32, 4096} {
		d := newDecoder(t, room, 64)
		says(t, d, "")
		refuses(t, d, comes("", ""), api.ErrFull)
		refuses(t, d, []byte{0}, api.ErrForm)
		refuses(t, d, []byte{0x80, 0}, api.ErrForm)
		getsNot(t, d, 0, []byte{0, 0, 0x80}, api.ErrForm)
		e := newEncoder(t, room, 64)
		hearsNot(t, e, []byte{1})
		hearsNot(t, e, []byte{0x80})
	}
}

// P20.4, P20.5, P20.6: the chapter's examples.
func TestExamples(t *testing.T) {
	gets(t, newDecoder(t, 220, 9), 0, unhex(t, "00 00 d1 c1"), field(":method", "GET"), field(":path", "/"))
	d := newDecoder(t, 220, 9)
	done(t, d, unhex(t, "3f bd 01 c0 0f 77 77 77 2e 65 78 61 6d 70 6c 65 2e 63 6f 6d"), 20)
	gets(t, d, 4, unhex(t, "02 80 10"), field(":authority", "www.example.com"))
	says(t, d, "84")
	says(t, d, "")
	getsNot(t, newDecoder(t, 220, 0), 0, unhex(t, "02 80 10"), api.ErrFull)
	getsNot(t, newDecoder(t, 220, 1), 0, unhex(t, "02 80 10"), api.ErrWait)
}

// P20.4, P20.5, P20.6: a run worked out elsewhere (RFC 9204, appendix B).
func TestElsewhere(t *testing.T) {
	d := newDecoder(t, 220, 9)
	gets(t, d, 0, unhex(t, "0000 510b 2f69 6e64 6578 2e68 746d 6c"), field(":path", "/index.html"))
	says(t, d, "")

	section := unhex(t, "0381 10 11")
	getsNot(t, d, 4, section, api.ErrWait)
	done(t, d, unhex(t, "3fbd01 c00f 7777 772e 6578 616d 706c 652e 636f 6d c10c 2f73 616d 706c 652f 7061 7468"), 34)
	gets(t, d, 4, section, field(":authority", "www.example.com"), field(":path", "/sample/path"))
	says(t, d, "84")

	done(t, d, unhex(t, "4a63 7573 746f 6d2d 6b65 790c 6375 7374 6f6d 2d76 616c 7565"), 24)
	says(t, d, "01")

	section = unhex(t, "0500 80 c1 81")
	getsNot(t, d, 8, section, api.ErrWait)
	done(t, d, unhex(t, "02"), 1)
	if e := d.Cancel(8); e != api.OK {
		t.Fatal("Cancel:", e)
	}
	says(t, d, "48 01")
	gets(t, d, 8, section, field(":authority", "www.example.com"), field(":path", "/"), field("custom-key", "custom-value"))
	says(t, d, "88")

	// the first one goes, so that 57 + 49 + 55 + 54 are there
	done(t, d, unhex(t, "810d 6375 7374 6f6d 2d76 616c 7565 32"), 15)
	gets(t, d, 12, unhex(t, "0600 80 81 82 83"), field("custom-key", "custom-value2"), field(":authority", "www.example.com"), field("custom-key", "custom-value"), field(":path", "/sample/path"))
	getsNot(t, d, 12, unhex(t, "0600 84"), api.ErrForm)
	says(t, d, "8c")
}

// P20.4: each of the instructions, by each kind of name and in either way of text, with the entries that there are then.
func TestInstructions(t *testing.T) {
	d := newDecoder(t, 4096, 0)
	fill(t, d, 4096, field("first", "one"), field("last", "two"))
	var b []byte
	for _, x := range [][]byte{
		all(number(0xc0, 6, 0), few(0, 8, "www")),            // the first fixed name
		all(number(0xc0, 6, 98), plainly(0, 8, "deny")),      // the last one
		all(number(0x80, 6, 3), plainly(0, 8, "")),           // of the first entry, with nothing
		all(number(0x80, 6, 0), few(0, 8, "three")),          // of the last one
		all(few(0x40, 6, "custom-key"), few(0, 8, "no")),     // texts in few bits
		all(plainly(0x40, 6, "custom-key"), few(0, 8, "no")), // the name as it is
		all(few(0x40, 6, ""), few(0, 8, "")),
		all(plainly(0x40, 6, ""), []byte{0x80}), // nothing, in few bits
		number(0, 5, 0),                         // the last one again
		number(0, 5, 9),                         // one far behind it
	} {
		b = append(b, x...)
	}
	done(t, d, b, len(b))
	want := []api.Field{
		field("first", "one"), field("last", "two"), field(":authority", "www"), field("x-frame-options", "deny"),
		field("first", ""), field("first", "three"), field("custom-key", "no"), field("custom-key", "no"), {}, {}, {}, field("last", "two"),
	}
	all := []byte{byte(len(want)) + 1, 0}
	for i := range want {
		all = append(all, 0x80|byte(len(want)-1-i))
	}
	gets(t, d, 0, all, want...)
}

// P20.4: an entry's place tells the one so many behind the last: the first and the last one that is there, none that went, none that did not come.
func TestInstructionEntries(t *testing.T) {
	made := func() *qpack.Decoder {
		d := newDecoder(t, 4096, 0)
		fill(t, d, 3*34, field("a", "1"), field("b", "2"), field("c", "3"), field("d", "4"), field("e", "5"))
		return d
	}
	for at, name := range []string{"e", "d", "c", "", "", ""} {
		named := all(number(0x80, 6, uint64(at)), plainly(0, 8, "z"))
		again := number(0, 5, uint64(at))
		if name == "" {
			refuses(t, made(), named, api.ErrForm)
			refuses(t, made(), again, api.ErrForm)
			continue
		}
		d := made()
		done(t, d, named, 3)
		gets(t, d, 0, []byte{7, 0, 0x80}, field(name, "z"))
		d = made()
		done(t, d, again, 1)
		gets(t, d, 0, []byte{7, 0, 0x80}, field(name, string(rune('1'+name[0]-'a'))))
	}
	for _, at := range []uint64{1 << 32, 1<<32 + 1, 1 << 61, api.MaxNumber} {
		refuses(t, made(), all(number(0x80, 6, at), []byte{0}), api.ErrForm)
		refuses(t, made(), number(0, 5, at), api.ErrForm)
	}
}

// P20.4: fixed fields that there are none of.
func TestInstructionFixed(t *testing.T) {
	for _, at := range []uint64{99, 100, 127, 128, 255, 256, 1 << 31, 1 << 32, 1<<32 + 17, 1 << 61, api.MaxNumber} {
		d := newDecoder(t, 4096, 0)
		fill(t, d, 4096)
		refuses(t, d, all(number(0xc0, 6, at), []byte{0}), api.ErrForm)
		done(t, d, all(number(0xc0, 6, 98), []byte{0}), 3)
	}
}

// P20.4: a field has room just when its size is at most the room, the name being told, or another one's, or the whole another's.
func TestInstructionRoom(t *testing.T) {
	for _, room := range []int{31, 32, 33, 34, 100, 4095, 4096} {
		for size := max(room-2, 32); size <= room+2; size++ {
			for i, b := range [][]byte{
				comes(strings.Repeat("n", size-32), ""),
				comes("", strings.Repeat("v", size-32)),
				all(few(0x40, 6, strings.Repeat("n", size/2-16)), few(0, 8, strings.Repeat("v", size-size/2-16))),
				all(number(0xc0, 6, 1), few(0, 8, strings.Repeat("v", max(0, size-37)))), // :path
			} {
				d := newDecoder(t, room, 0)
				done(t, d, roomFor(uint64(room)), len(roomFor(uint64(room))))
				size := size
				if i == 3 {
					size = max(size, 37)
				}
				if size > room {
					refuses(t, d, b, api.ErrFull)
					says(t, d, "")
				} else {
					done(t, d, b, len(b))
					says(t, d, "01")
				}
			}
		}
	}
}

// P20.4: the room that is told: up to that which the decoder was made with; with less room, entries go.
func TestInstructionRooms(t *testing.T) {
	for _, room := range []int{0, 1, 30, 31, 32, 33, 220, 4095, 4096} {
		for _, told := range []uint64{0, 1, 30, 31, 32, 219, 220, 221, 4095, 4096, 4097, 1 << 20, 1 << 32, api.MaxNumber} {
			d := newDecoder(t, room, 0)
			if b := roomFor(told); told > uint64(room) {
				refuses(t, d, b, api.ErrLimit)
			} else {
				done(t, d, b, len(b))
			}
		}
	}
	d := newDecoder(t, 102, 0)
	fill(t, d, 102, field("a", "1"), field("b", "2"), field("c", "3"))
	done(t, d, roomFor(102), 2)
	gets(t, d, 0, []byte{4, 0, 0x82}, field("a", "1"))
	done(t, d, roomFor(101), 2)
	getsNot(t, d, 0, []byte{4, 0, 0x82}, api.ErrForm)
	gets(t, d, 0, []byte{4, 0, 0x81}, field("b", "2"))
	done(t, d, all(roomFor(67), roomFor(102)), 4)
	getsNot(t, d, 0, []byte{4, 0, 0x81}, api.ErrForm)
	gets(t, d, 0, []byte{4, 0, 0x80}, field("c", "3"))
	done(t, d, all(roomFor(0), roomFor(102)), 3)
	getsNot(t, d, 0, []byte{4, 0, 0x80}, api.ErrForm)
	done(t, d, comes("d", "4"), 4)
	gets(t, d, 0, []byte{5, 0, 0x80}, field("d", "4"))
	refuses(t, d, all(roomFor(0), comes("", "")), api.ErrFull)
}

// P20.4: instructions that end at each of their bytes: what is whole is done, and the rest with what comes behind.
func TestInstructionsCut(t *testing.T) {
	long := strings.Repeat("long", 100)
	one := [][]byte{
		roomFor(4096),
		all(number(0xc0, 6, 98), plainly(0, 8, long)),
		all(number(0x80, 6, 0), few(0, 8, long)),
		all(plainly(0x40, 6, long), plainly(0, 8, long)),
		all(few(0x40, 6, long), few(0, 8, "~")),
		number(0, 5, 0),
		all(number(0x80, 6, 3), []byte{0}),
		roomFor(4000),
	}
	var b []byte
	var ends []int
	for _, x := range one {
		b = append(b, x...)
		ends = append(ends, len(b))
	}
	for cut := range b {
		whole := 0
		for _, end := range ends {
			if end <= cut {
				whole = end
			}
		}
		d := newDecoder(t, 4096, 0)
		done(t, d, b[:cut], whole)
		done(t, d, b[whole:cut], 0)
		done(t, d, b[whole:], len(b)-whole)
		says(t, d, "06")
		gets(t, d, 0, []byte{7, 0, 0x80, 0x81}, field("x-frame-options", ""), field(long, "~"))
	}
	done(t, newDecoder(t, 0, 0), nil, 0)
}

// P20.4: a number whose bytes do not end in time, or that is above MaxNumber, may not be, in whatever it stands; neither may a text.
func TestInstructionsNumbers(t *testing.T) {
	above := unhex(t, "ff ff ff ff ff ff ff ff ff 7f")
	endless := unhex(t, "ff ff ff ff ff ff ff ff ff ff")
	for _, n := range [][]byte{above, endless} {
		for _, first := range [][]byte{{0x3f}, {0x1f}, {0xff}, {0xbf}, {0x5f}, {0x7f}, {0x40, 0x7f}, {0xc0, 0xff}, {0x80, 0x7f}} {
			d := newDecoder(t, 4096, 0)
			fill(t, d, 4096, field("a", "1"))
			refuses(t, d, all(first, n), api.ErrForm)
			refuses(t, d, all(first, n, []byte{0, 0}), api.ErrForm)
			done(t, d, all(first, n[:9]), 0)
		}
	}
}

// P20.4: a text that is no code of few bits, or of more than MaxText bytes, may not be.
func TestInstructionsTexts(t *testing.T) {
	made := func() *qpack.Decoder {
		d := newDecoder(t, 4096, 0)
		fill(t, d, 4096, field("a", "1"))
		return d
	}
	for _, first := range [][]byte{{0xc0}, {0x80}, {0x40}} {
		refuses(t, made(), all(first, unhex(t, "81 ff")), api.ErrForm)
		refuses(t, made(), all(first, number(0, 7, api.MaxText+1)), api.ErrForm)
		refuses(t, made(), all(first, number(0x80, 7, api.MaxText+1)), api.ErrForm)
		refuses(t, made(), all(first, few(0, 8, strings.Repeat("a", api.MaxText))), api.ErrFull)
		done(t, made(), all(first, number(0, 7, api.MaxText)), 0)
	}
	refuses(t, made(), unhex(t, "61 ff"), api.ErrForm)
	refuses(t, made(), number(0x40, 5, api.MaxText+1), api.ErrForm)
	// in few bits: more than MaxText bytes of text, 5 bits each
	long := all(number(0x80, 7, 40965), make([]byte, 40965))
	refuses(t, made(), all([]byte{0x40}, long), api.ErrForm)
}

// P20.4, R2: of several errors of an instruction the one that is told first.
func TestInstructionsFirstError(t *testing.T) {
	d := newDecoder(t, 100, 0)
	fill(t, d, 40, field("a", "1"))
	great := strings.Repeat("v", 100)
	refuses(t, d, all(number(0xc0, 6, 99), plainly(0, 8, great)), api.ErrForm)
	refuses(t, d, all(number(0x80, 6, 1), plainly(0, 8, great)), api.ErrForm)
	refuses(t, d, all(number(0x80, 6, 0), plainly(0, 8, great)), api.ErrFull)
	refuses(t, d, all(plainly(0x40, 6, great), unhex(t, "81 ff")), api.ErrForm)
	refuses(t, d, all([]byte{0x3f}, unhex(t, "ff ff ff ff ff ff ff ff ff 7f")), api.ErrForm)
}

// P20.4, R2: with an error none of the bytes is done, however much stands ahead of what may not be.
func TestInstructionsRefused(t *testing.T) {
	for _, wrong := range [][]byte{roomFor(103), {0x1e}, {0xbe, 0}, number(0xc0, 6, 99), {0x41, 'a', 0x81, 0xff}, comes("", strings.Repeat("v", 71))} {
		if wrong[0] == 0xff {
			wrong = append(wrong, 0)
		}
		for _, ahead := range [][]byte{nil, roomFor(0), roomFor(34), comes("d", "4"), {0, 0, 0}, {0x80, 1, 'z'}} {
			d := newDecoder(t, 102, 0)
			fill(t, d, 102, field("a", "1"), field("b", "2"), field("c", "3"))
			b := all(ahead, wrong)
			if n, e := d.Table(b); n != 0 || e == api.OK {
				t.Fatalf("Table(%x): %d, error %d", b, n, e)
			}
			gets(t, d, 0, []byte{4, 0, 0x80, 0x81, 0x82}, field("c", "3"), field("b", "2"), field("a", "1"))
			says(t, d, "80")
			done(t, d, comes("d", "4"), 4)
			getsNot(t, d, 0, []byte{5, 0, 0x83}, api.ErrForm)
			gets(t, d, 0, []byte{5, 0, 0x80, 0x81, 0x82}, field("d", "4"), field("c", "3"), field("b", "2"))
			says(t, d, "80")
		}
	}
}

// P20.4: an entry whose name a field takes may go by that field's coming.
func TestInstructionOfWhatGoes(t *testing.T) {
	d := newDecoder(t, 32+4, 0)
	fill(t, d, 36, field("ab", "12"))
	done(t, d, all(number(0x80, 6, 0), plainly(0, 8, "34")), 4)
	gets(t, d, 0, []byte{1, 0, 0x80}, field("ab", "34"))
	done(t, d, number(0, 5, 0), 1)
	gets(t, d, 0, []byte{2, 0, 0x80}, field("ab", "34"))
	refuses(t, d, number(0, 5, 1), api.ErrForm)
}
