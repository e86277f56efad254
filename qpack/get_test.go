package qpack_test

import (
	"slices"
	"strings"
	"testing"

	"mailcoach/api"
	"mailcoach/qpack"
)

// five fields that come, each with a letter.
func five() []api.Field {
	return []api.Field{field("a", "1"), field("b", "2"), field("c", "3"), field("d", "4"), field("e", "5")}
}

// withFive: a decoder of the greatest room, so that R is the number and 1, for five fields and some more.
func withFive(t *testing.T, waits int) *qpack.Decoder {
	t.Helper()
	d := newDecoder(t, 4096, waits)
	fill(t, d, 4096, five()...)
	return d
}

// P20.5: of each R, with so many entries come, the number that must have come: where it begins anew and on either side of it.
func TestNumber(t *testing.T) {
	for _, room := range []int{0, 1, 31, 32, 33, 63, 64, 95, 96, 128, 160} {
		e := room / 32
		for came := range 4*e + 4 {
			if e == 0 && came > 0 {
				break
			}
			for told := range uint64(2*e + 4) {
				d := newDecoder(t, room, 64)
				fill(t, d, uint64(room), make([]api.Field, came)...)
				wantNumber(t, d, room, came, told)
			}
		}
	}
}

// wantNumber: a section that tells R just so is got when the number came, and it is told so; else it may not be.
func wantNumber(t *testing.T, d *qpack.Decoder, room, came int, told uint64) {
	t.Helper()
	section := number(0, 8, told)
	section = append(section, 0)
	want, ok := need(told, room, came)
	switch {
	case told == 0:
		gets(t, d, 0, section)
	case !ok:
		getsNot(t, d, 0, section, api.ErrForm)
	case want > came:
		for n := came; n < want; n++ {
			getsNot(t, d, 0, section, api.ErrWait)
			done(t, d, comes("", ""), 2)
		}
		gets(t, d, 0, section)
		says(t, d, "80")
	default:
		gets(t, d, 0, section)
		if s := d.Say(); s[0] != 0x80 || came > want && int(s[1]) != came-want || came == want && len(s) != 1 {
			t.Fatalf("room %d, %d came, R %d: the number is %d; Say: %x", room, came, told, want, s)
		}
	}
}

// P20.5: R of the greatest room, at each of its edges; and what no R may be.
func TestNumberFar(t *testing.T) {
	d := newDecoder(t, 4096, 64) // E is 128, F 256
	fill(t, d, 4096)
	for _, told := range []uint64{257, 258, 1 << 32, 1<<32 + 2, api.MaxNumber} {
		getsNot(t, d, 0, all(number(0, 8, told), []byte{0}), api.ErrForm)
	}
	getsNot(t, d, 0, unhex(t, "ff ff ff ff ff ff ff ff ff 7f 00"), api.ErrForm)
	getsNot(t, d, 0, unhex(t, "ff ff ff ff ff ff ff ff ff ff ff 00"), api.ErrForm)
	for came := range 600 {
		for _, far := range []int{-129, -128, -127, -1, 0, 1, 127, 128, 129} {
			want := came + far
			if want < 1 {
				continue
			}
			section := append(number(0, 8, uint64(want%256+1)), 0)
			l, e := d.Get(0, section)
			switch {
			case far == 129 || far == -128 || far == -129:
				// these tell another number, which is 256 away
				if other, ok := need(uint64(want%256+1), 4096, came); ok && other == want {
					t.Fatal("the words reach further than they should")
				}
			case far > 0 && e != api.ErrWait, far <= 0 && e != api.OK, len(l) > 0:
				t.Fatalf("%d came, %d must have: %q, error %d", came, want, l, e)
			}
		}
		done(t, d, comes("", ""), 2)
	}
}

// P20.5: rooms that the table is told later do not change what R says.
func TestNumberOfOtherRoom(t *testing.T) {
	d := newDecoder(t, 96, 1) // F is 6
	fill(t, d, 96, make([]api.Field, 7)...)
	done(t, d, roomFor(32), 2)
	gets(t, d, 0, []byte{2, 0, 0x80}, api.Field{}) // 7, and not 1
	getsNot(t, d, 0, []byte{7, 0}, api.ErrForm)    // above F
}

// P20.5: the base: ahead of the number that must have come, at it, and behind it; and below 0, which may not be.
func TestBase(t *testing.T) {
	for number := 0; number <= 5; number++ {
		for base := -3; base <= 9; base++ {
			d := withFive(t, 0)
			head := sectionHead(number, base)
			if base < 0 {
				getsNot(t, d, 0, head, api.ErrForm)
				continue
			}
			gets(t, d, 0, head)
			for n := -2; n <= 8; n++ {
				wantEntry(t, d, head, base, n, n >= 0 && n < number)
			}
		}
	}
}

// sectionHead: the beginning of a section, of a number below 256.
func sectionHead(n, base int) []byte {
	told := 0
	if n > 0 {
		told = n + 1
	}
	if base < n {
		return all(number(0, 8, uint64(told)), number(0x80, 7, uint64(n-base-1)))
	}
	return all(number(0, 8, uint64(told)), number(0, 7, uint64(base-n)))
}

// wantEntry: an entry is found by each of the lines that can tell of it, if the section may have it.
func wantEntry(t *testing.T, d *qpack.Decoder, head []byte, base, n int, ok bool) {
	t.Helper()
	var whole, named [][]byte
	if n < base {
		back := uint64(base - 1 - n)
		whole = [][]byte{number(0x80, 6, back)}
		named = [][]byte{number(0x40, 4, back), number(0x60, 4, back)}
	} else {
		ahead := uint64(n - base)
		whole = [][]byte{number(0x10, 4, ahead)}
		named = [][]byte{number(0, 3, ahead), number(8, 3, ahead)}
	}
	for _, line := range whole {
		if !ok {
			getsNot(t, d, 0, all(head, line), api.ErrForm)
			continue
		}
		gets(t, d, 0, all(head, line), five()[n])
	}
	for _, line := range named {
		if !ok {
			getsNot(t, d, 0, all(head, line, plainly(0, 8, "v")), api.ErrForm)
			continue
		}
		gets(t, d, 0, all(head, line, plainly(0, 8, "v")), field(five()[n].Name, "v"))
		gets(t, d, 0, all(head, line, few(0, 8, "value")), field(five()[n].Name, "value"))
	}
}

// P20.5: a base as far ahead as can be: what is that far behind it is there, what is further is not.
func TestBaseFar(t *testing.T) {
	d := withFive(t, 0)
	for _, far := range []uint64{1 << 32, 1 << 61, api.MaxNumber - 5, api.MaxNumber} {
		head := all([]byte{6}, number(0, 7, far))
		gets(t, d, 0, all(head, number(0x80, 6, far)), field("e", "5"))
		gets(t, d, 0, all(head, number(0x80, 6, far), number(0x40, 4, far), []byte{0}), field("e", "5"), field("e", ""))
		getsNot(t, d, 0, all(head, number(0x80, 6, far-1)), api.ErrForm)
		getsNot(t, d, 0, all(head, number(0x10, 4, 0)), api.ErrForm)
		getsNot(t, d, 0, all(head, number(0, 3, api.MaxNumber), []byte{0}), api.ErrForm)
		getsNot(t, d, 0, all(head, number(0x10, 4, api.MaxNumber)), api.ErrForm)
	}
	getsNot(t, d, 0, all([]byte{6}, number(0x80, 7, api.MaxNumber)), api.ErrForm)
	getsNot(t, d, 0, all([]byte{6}, unhex(t, "7f ff ff ff ff ff ff ff ff ff 7f")), api.ErrForm)
	getsNot(t, d, 0, all([]byte{6, 0x84}, number(0x10, 4, api.MaxNumber)), api.ErrForm)
	getsNot(t, d, 0, all([]byte{6, 0x84}, number(0x80, 6, api.MaxNumber)), api.ErrForm)
	getsNot(t, d, 0, all([]byte{6, 0x84}, number(0x80, 6, 0)), api.ErrForm)
	gets(t, d, 0, []byte{0, 5})
	getsNot(t, d, 0, []byte{0, 5, 0x80}, api.ErrForm)
	getsNot(t, d, 0, []byte{0, 5, 0x84}, api.ErrForm)
	getsNot(t, d, 0, []byte{0, 0x80}, api.ErrForm)
}

// P20.5: the beginning that ends at each of its bytes.
func TestBeginningShort(t *testing.T) {
	d := newDecoder(t, 4096, 64)
	fill(t, d, 4096)
	for range 600 {
		done(t, d, comes("", ""), 2)
	}
	head := all(number(0, 8, 256), number(0x80, 7, 300)) // 511
	gets(t, d, 0, head)
	for cut := range head {
		getsNot(t, d, 0, head[:cut], api.ErrForm)
	}
	getsNot(t, d, 0, nil, api.ErrForm)
}

// P20.5: fixed fields: the first, the last, and none behind it, whole and as a name.
func TestLinesFixed(t *testing.T) {
	d := newDecoder(t, 0, 0)
	gets(t, d, 0, all([]byte{0, 0}, number(0xc0, 6, 0), number(0xc0, 6, 98)), field(":authority", ""), field("x-frame-options", "sameorigin"))
	for _, n := range []byte{0, 0x20} {
		gets(t, d, 0, all([]byte{0, 0}, number(0x50|n, 4, 0), []byte{0}, number(0x50|n, 4, 98), plainly(0, 8, "v")), field(":authority", ""), field("x-frame-options", "v"))
		for _, at := range []uint64{99, 100, 1 << 32, 1<<32 + 17, api.MaxNumber} {
			getsNot(t, d, 0, all([]byte{0, 0}, number(0xc0, 6, at)), api.ErrForm)
			getsNot(t, d, 0, all([]byte{0, 0}, number(0x50|n, 4, at), []byte{0}), api.ErrForm)
		}
	}
	says(t, d, "")
}

// P20.5: names that are told, with and without the bit N, in either way of text, the empty ones too.
func TestLinesSpelled(t *testing.T) {
	d := newDecoder(t, 0, 0)
	for _, n := range []byte{0x20, 0x30} {
		for _, f := range []api.Field{{}, field("", "v"), field("n", ""), field("custom-key", "custom-value"), field(strings.Repeat("n", 300), "~~~"), field("\x00\xff", "\n")} {
			for _, line := range [][]byte{
				all(plainly(n, 4, f.Name), plainly(0, 8, f.Value)), all(few(n, 4, f.Name), few(0, 8, f.Value)),
				all(plainly(n, 4, f.Name), few(0, 8, f.Value)), all(few(n, 4, f.Name), plainly(0, 8, f.Value)),
			} {
				gets(t, d, 0, all([]byte{0, 0}, line, line), f, f)
			}
		}
	}
	gets(t, d, 0, unhex(t, "0000 28 80"), api.Field{}) // empty, in few bits
}

// P20.5: a section that ends at each of its bytes: it has fewer lines, or may not be.
func TestLinesShort(t *testing.T) {
	d := withFive(t, 0)
	long := strings.Repeat("long", 40)
	lines := []struct {
		b []byte
		f api.Field
	}{
		{number(0xc0, 6, 98), field("x-frame-options", "sameorigin")},
		{number(0x80, 6, 0), field("c", "3")},
		{number(0x10, 4, 1), field("e", "5")},
		{all(number(0x50, 4, 98), few(0, 8, long)), field("x-frame-options", long)},
		{all(number(0x60, 4, 2), plainly(0, 8, long)), field("a", long)},
		{all(number(8, 3, 1), few(0, 8, "~~")), field("e", "~~")},
		{all(few(0x30, 4, long), plainly(0, 8, long)), field(long, long)},
		{all(plainly(0x20, 4, "n"), []byte{0}), field("n", "")},
	}
	section, want, ends := []byte{6, 0x81}, []api.Field{}, []int{2}
	for _, x := range lines {
		section = append(section, x.b...)
		want = append(want, x.f)
		ends = append(ends, len(section))
	}
	for cut := 2; cut <= len(section); cut++ {
		if n := slices.Index(ends, cut); n >= 0 {
			gets(t, d, 0, section[:cut], want[:n]...)
			says(t, d, "80")
		} else {
			getsNot(t, d, 0, section[:cut], api.ErrForm)
			says(t, d, "")
		}
	}
}

// P20.5: numbers above MaxNumber, numbers without an end, and texts that may not be, in each line that has one.
func TestLinesWrong(t *testing.T) {
	d := withFive(t, 0)
	wrong := [][]byte{}
	for _, n := range [][]byte{unhex(t, "ff ff ff ff ff ff ff ff ff 7f"), unhex(t, "ff ff ff ff ff ff ff ff ff ff")} {
		for _, first := range []byte{0xff, 0xbf, 0x1f, 0x5f, 0x4f, 0x07, 0x27} {
			wrong = append(wrong, all([]byte{first}, n, []byte{0, 0}))
		}
		for _, first := range [][]byte{{0x51}, {0x40}, {0x00}, {0x21, 'x'}} {
			wrong = append(wrong, all(first, []byte{0x7f}, n))
		}
	}
	for _, first := range [][]byte{{0x51}, {0x40}, {0x00}, {0x21, 'x'}} {
		wrong = append(wrong, all(first, unhex(t, "81 ff")), all(first, number(0, 7, api.MaxText+1), make([]byte, api.MaxText+1)))
		wrong = append(wrong, all(first, number(0x80, 7, 40965), make([]byte, 40965)))
	}
	wrong = append(wrong, unhex(t, "29 ff 00"), all(number(0x20, 3, api.MaxText+1), make([]byte, api.MaxText+2)))
	for _, line := range wrong {
		getsNot(t, d, 0, all([]byte{6, 0x85 - 1}, line), api.ErrForm)
		getsNot(t, d, 0, all([]byte{6, 0x84, 0xd1}, line, []byte{0xd1}), api.ErrForm)
	}
	says(t, d, "05")
}

// P20.5: an entry that is there, but not below the number that must have come; and one that went.
func TestLinesEntries(t *testing.T) {
	d := newDecoder(t, 4096, 0)
	fill(t, d, 3*34, five()...)
	for number := 1; number <= 5; number++ {
		head := sectionHead(number, 2)
		for n := range 7 {
			wantEntry(t, d, head, 2, n, n >= 2 && n < number)
		}
	}
}

// P20.5: the limits: MaxFields fields, MaxText bytes of names and values together; one more of either.
func TestGetLimits(t *testing.T) {
	d := withFive(t, 0)
	head := []byte{6, 0}
	line := all([]byte{0x50}, plainly(0, 8, strings.Repeat("v", 246))) // :authority: 256 in all
	most := all(head, slices.Repeat(line, 256))
	if l, e := d.Get(0, most); e != api.OK || len(l) != 256 {
		t.Fatal("the most fields, of the most bytes:", len(l), e)
	}
	says(t, d, "80")
	long := func(n int) []byte { return plainly(0, 8, strings.Repeat("v", n)) }
	short := unhex(t, "20 00") // a field of nothing
	for i, c := range []struct {
		section []byte
		e       api.Errno
	}{
		{all(head, slices.Repeat(line, 255), []byte{0x50}, long(247)), api.ErrLimit},
		{all(head, slices.Repeat(line, 255), []byte{0x50}, long(245)), api.OK},
		{all(head, slices.Repeat(short, 256)), api.OK},
		{all(head, slices.Repeat(short, 257)), api.ErrLimit},
		{all(head, slices.Repeat([]byte{0x80}, 256)), api.OK},
		{all(head, slices.Repeat([]byte{0x80}, 257)), api.ErrLimit},
		{all(head, slices.Repeat([]byte{0x80}, 100000)), api.ErrLimit},
		{all(head, []byte{0x20}, long(65536)), api.OK},
		{all(head, []byte{0x21, 'x'}, long(65535)), api.OK},
		{all(head, []byte{0x21, 'x'}, long(65536)), api.ErrLimit},
		{all(head, []byte{0x20}, long(65536), short), api.OK},
		{all(head, []byte{0x20}, long(65536), []byte{0x80}), api.ErrLimit},
		{all(head, plainly(0x20, 4, strings.Repeat("n", 65536)), []byte{0}), api.OK},
		{all(head, plainly(0x20, 4, strings.Repeat("n", 65536)), long(1)), api.ErrLimit},
		{all(head, []byte{0x20}, long(65537)), api.ErrForm}, // text.Get's ErrLimit: a text that may not be
		{all(head, slices.Repeat(short, 257), []byte{0x21}), api.ErrForm},
		{all(head, slices.Repeat(short, 257), []byte{0xff, 99}), api.ErrForm},
		{all(head, []byte{0x21, 'x'}, long(65536), []byte{0x85}), api.ErrForm},
		{all(head, slices.Repeat(short, 300), unhex(t, "21 78 81 ff")), api.ErrForm},
	} {
		if l, e := d.Get(0, c.section); e != c.e || e != api.OK && len(l) > 0 {
			t.Errorf("%d: %d fields, error %d, not %d", i, len(l), e, c.e)
		}
		if s := d.Say(); (len(s) > 0) != (c.e == api.OK) {
			t.Errorf("%d: Say: %x", i, s)
		}
	}
}

// P20.5: sections of waits streams wait; of one more none does; of one that waits already they do.
func TestWaits(t *testing.T) {
	section := []byte{3, 0, 0x80}
	for _, waits := range []int{0, 1, 2, 63, 64} {
		d := newDecoder(t, 4096, waits)
		for i := range uint64(waits) {
			getsNot(t, d, 4*i, section, api.ErrWait)
			getsNot(t, d, 4*i, section, api.ErrWait)
		}
		for range 2 {
			getsNot(t, d, 4*uint64(waits), section, api.ErrFull)
			getsNot(t, d, api.MaxNumber, section, api.ErrFull)
			for i := range uint64(waits) {
				getsNot(t, d, 4*i, section, api.ErrWait)
			}
		}
		gets(t, d, 4*uint64(waits), []byte{0, 0, 0xd1}, field(":method", "GET")) // which needs nothing, and does not wait
		says(t, d, "")
		fill(t, d, 4096, field("a", "1"), field("b", "2"))
		want := []byte{}
		for i := range uint64(waits + 1) {
			gets(t, d, 4*i, section, field("b", "2"))
			want = append(want, number(0x80, 7, 4*i)...)
		}
		if s := d.Say(); !slices.Equal(s, want) {
			t.Fatalf("Say: %x, not %x", s, want)
		}
		getsNot(t, d, 0, []byte{4, 0}, errorOf(waits))
	}
}

// errorOf a first section that has to wait.
func errorOf(waits int) api.Errno {
	if waits == 0 {
		return api.ErrFull
	}
	return api.ErrWait
}

// P20.5, P20.6: a stream waits no more when fields of it were got, or it is not looked at; till then it does, whatever else is refused.
func TestWaitsEnd(t *testing.T) {
	d := newDecoder(t, 4096, 1)
	far := []byte{3, 0, 0x80}
	getsNot(t, d, 0, far, api.ErrWait)
	for _, wrong := range [][]byte{nil, {0}, {0, 0x80}, {0, 0, 0x80}, {0, 0, 0x21}, {255, 255, 0}} {
		getsNot(t, d, 0, wrong, api.ErrForm)
		getsNot(t, d, 4, far, api.ErrFull)
	}
	getsNot(t, d, api.MaxNumber+1, far, api.ErrArg)
	if e := d.Cancel(api.MaxNumber + 1); e != api.ErrArg {
		t.Fatal("Cancel:", e)
	}
	getsNot(t, d, 0, all([]byte{0, 0}, slices.Repeat([]byte{0xd1}, 257)), api.ErrLimit)
	getsNot(t, d, 4, far, api.ErrFull)
	gets(t, d, 4, []byte{0, 0}) // another one's does not end it
	if e := d.Cancel(4); e != api.OK {
		t.Fatal("Cancel:", e)
	}
	getsNot(t, d, 4, far, api.ErrFull)
	gets(t, d, 0, []byte{0, 0}) // its own does
	getsNot(t, d, 4, far, api.ErrWait)
	getsNot(t, d, 0, far, api.ErrFull)
	if e := d.Cancel(4); e != api.OK {
		t.Fatal("Cancel:", e)
	}
	getsNot(t, d, 0, far, api.ErrWait)
	fill(t, d, 4096, field("a", "1"))
	getsNot(t, d, 0, far, api.ErrWait) // one of the two came
	getsNot(t, d, 4, far, api.ErrFull)
	fill(t, d, 4096, field("b", "2"))
	getsNot(t, d, 4, []byte{4, 0}, api.ErrFull) // the other one waits, though it could be got
	gets(t, d, 0, far, field("b", "2"))
	getsNot(t, d, 4, []byte{4, 0}, api.ErrWait)
	says(t, d, "44 44 80")
}

// P20.5, R2: of several errors the one that is told first.
func TestGetFirstError(t *testing.T) {
	d := newDecoder(t, 4096, 0)
	var none *qpack.Decoder
	getsNot(t, none, api.MaxNumber+1, nil, api.ErrNil)
	getsNot(t, d, api.MaxNumber+1, nil, api.ErrArg)
	getsNot(t, d, 1<<64-1, []byte{3, 0}, api.ErrArg)
	getsNot(t, d, 0, []byte{3}, api.ErrForm)              // it ends too early, and would wait
	getsNot(t, d, 0, []byte{3, 0x82}, api.ErrForm)        // its base is below 0
	getsNot(t, d, 0, []byte{3, 0, 0xff, 99}, api.ErrFull) // its line may not be
	one := newDecoder(t, 4096, 1)
	getsNot(t, one, 0, []byte{3, 0, 0xff, 99}, api.ErrWait)
	getsNot(t, one, 4, []byte{3, 0, 0xff, 99}, api.ErrFull)
	getsNot(t, one, 4, []byte{0, 0, 0xff, 99}, api.ErrForm)
}

// P20.5: the ids 0 and MaxNumber.
func TestGetIDs(t *testing.T) {
	d := withFive(t, 1)
	for _, id := range []uint64{0, 1, 126, 127, 128, 1 << 32, api.MaxNumber - 1, api.MaxNumber} {
		gets(t, d, id, []byte{6, 0, 0x80}, field("e", "5"))
		if s := d.Say(); !slices.Equal(s, number(0x80, 7, id)) {
			t.Fatalf("%d: Say: %x", id, s)
		}
		getsNot(t, d, id, []byte{7, 0}, api.ErrWait)
		getsNot(t, d, id^1, []byte{7, 0}, api.ErrFull)
		if e := d.Cancel(id); e != api.OK {
			t.Fatal("Cancel:", e)
		}
		if s := d.Say(); !slices.Equal(s, number(0x40, 6, id)) {
			t.Fatalf("%d: Say: %x", id, s)
		}
	}
}
