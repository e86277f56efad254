package text_test

import (
	"bytes"
	"encoding/hex"
	"math"
	"math/rand"
	"strings"
	"sync"
	"testing"

	"mailcoach/api"
	"mailcoach/huff"
	"mailcoach/text"
)

// fromHex: bytes; blanks aside.
func fromHex(t *testing.T, s string) []byte {
	t.Helper()
	b, err := hex.DecodeString(strings.ReplaceAll(s, " ", ""))
	if err != nil {
		t.Fatal(err)
	}
	return b
}

// join: bytes of lists, one behind the other, in new memory.
func join(lists ...[]byte) []byte { return bytes.Join(lists, nil) }

// puts: a text is put as these bytes.
func puts(t *testing.T, first byte, bits int, s string, want []byte) {
	t.Helper()
	if b, e := text.Put(first, bits, s); !bytes.Equal(b, want) || e != api.OK {
		t.Errorf("Put(%02x, %d, %.40q of %d): %.40x of %d, %d; want %.40x of %d", first, bits, s, len(s), b, len(b), e, want, len(want))
	}
}

// notPut: a text is not put.
func notPut(t *testing.T, first byte, bits int, s string, want api.Errno) {
	t.Helper()
	if b, e := text.Put(first, bits, s); len(b) != 0 || e != want {
		t.Errorf("Put(%02x, %d, %.40q of %d): %.40x of %d, %d; want %d", first, bits, s, len(s), b, len(b), e, want)
	}
}

// gets: of these bytes this is got.
func gets(t *testing.T, bits int, b []byte, want got) {
	t.Helper()
	above, s, size, e := text.Get(bits, b)
	if (got{above, s, size, e}) != want {
		t.Errorf("Get(%d, %.40x of %d): %02x %.40q of %d, %d, %d; want %02x %.40q of %d, %d, %d",
			bits, b, len(b), above, s, len(s), size, e, want.above, want.s, len(want.s), want.size, want.e)
	}
}

// refused: of these bytes nothing is got.
func refused(t *testing.T, bits int, b []byte, want api.Errno) {
	t.Helper()
	gets(t, bits, b, got{e: want})
}

// is: a text is put as these bytes, and got of them.
func is(t *testing.T, first byte, bits int, s string, want []byte) {
	t.Helper()
	puts(t, first, bits, s, want)
	gets(t, bits, want, got{above: first, s: s, size: len(want)})
}

// firsts: bytes whose bits lowest bits are not set: all of them.
func firsts(bits int) (l []byte) {
	for n := 0; n < 256; n += 1 << bits {
		l = append(l, byte(n))
	}
	return l
}

// someText: so many bytes; of those of few bits alone, or of all.
func someText(r *rand.Rand, size int) string {
	from := "0123456789abcdefghijklmnopqrstuvwxyz-./:=%"
	all := r.Intn(2) == 0
	b := make([]byte, size)
	for i := range b {
		b[i] = from[r.Intn(len(from))]
		if all {
			b[i] = byte(r.Intn(256))
		}
	}
	return string(b)
}

// ofFew: a text that has so many bytes in the code of few bits, and more as it is; so many must be 2 or more.
func ofFew(t *testing.T, many int) string {
	t.Helper()
	s := strings.Repeat("0", many*8/5)
	if n := huff.Len(s); n != many || n >= len(s) {
		t.Fatalf("%d bytes of few bits, not %d, for %d", n, many, len(s))
	}
	return s
}

// sizes: numbers at which a number's bytes become more, in what is left of the first byte and behind it; and those beside them.
func sizes(bits int) (l []int) {
	m := 1<<(bits-1) - 1
	for _, n := range []int{1, m, m + 127, m + 128, m + 16383, m + 16384} {
		l = append(l, n-1, n, n+1)
	}
	return l
}

// wrongBits: numbers of bits that may not be.
func wrongBits() []int {
	return []int{math.MinInt, math.MinInt + 1, -256, -8, -2, -1, 0, 1, 9, 10, 16, 64, 65, 256 + 4, 1<<32 + 4, math.MaxInt - 1, math.MaxInt}
}

// P11.1, P11.2: the chapter's examples.
func TestExamples(t *testing.T) {
	for _, row := range []struct {
		first       byte
		bits        int
		text, bytes string
	}{
		{0, 8, "custom-key", "88 25 a8 49 e9 5b a9 7d 7f"},
		{0, 8, "custom-value", "89 25 a8 49 e9 5b b8 e8 b4 bf"},
		{0, 8, "no-cache", "86 a8 eb 10 64 9c bf"},
		{0, 8, "", "00"},
		{0xe0, 4, "302", "ea 64 02"},
		{0, 8, "~~", "02 7e 7e"},
		{0x40, 2, "ab", "41 01 61 62"},
	} {
		is(t, row.first, row.bits, row.text, fromHex(t, row.bytes))
	}
	gets(t, 8, fromHex(t, "0a 63 75 73 74 6f 6d 2d 6b 65 79 ff"), got{s: "custom-key", size: 11})
	gets(t, 4, fromHex(t, "ea 64 02"), got{above: 0xe0, s: "302", size: 3})
	refused(t, 8, nil, api.ErrShort)
	refused(t, 8, fromHex(t, "02 61"), api.ErrShort)
	refused(t, 8, fromHex(t, "81 ff"), api.ErrForm)
	refused(t, 1, fromHex(t, "00"), api.ErrArg)
	notPut(t, 0, 9, "a", api.ErrArg)
	notPut(t, 1, 8, "a", api.ErrArg)
}

// P11.1, P11.2: examples of RFC 7541 (C.2, C.4 and C.6) and of RFC 9204 (appendix B).
func TestExamplesOfRFC(t *testing.T) {
	for _, row := range []struct{ text, bytes string }{
		{"www.example.com", "8c f1 e3 c2 e5 f2 3a 6b a0 ab 90 f4 ff"},
		{"302", "82 64 02"},
		{"private", "85 ae c3 77 1a 4b"},
		{"gzip", "83 9b d9 ab"},
		{"Mon, 21 Oct 2013 20:13:21 GMT", "96 d0 7a be 94 10 54 d4 44 a8 20 05 95 04 0b 81 66 e0 82 a6 2d 1b ff"},
	} {
		is(t, 0, 8, row.text, fromHex(t, row.bytes))
	}
	for _, row := range []struct {
		bits  int
		bytes string
		want  got
	}{
		{8, "0d 63 75 73 74 6f 6d 2d 68 65 61 64 65 72", got{s: "custom-header", size: 14}},
		{8, "0b 2f 69 6e 64 65 78 2e 68 74 6d 6c", got{s: "/index.html", size: 12}},
		{6, "4a 63 75 73 74 6f 6d 2d 6b 65 79 0c", got{above: 0x40, s: "custom-key", size: 11}},
		{8, "0f 77 77 77 2e 65 78 61 6d 70 6c 65 2e 63 6f 6d", got{s: "www.example.com", size: 16}},
	} {
		gets(t, row.bits, fromHex(t, row.bytes), row.want)
	}
}

// P11.1, P11.2: an empty text is one byte, behind all highest bits that there are; in the code of few bits it is got too.
func TestEmptyText(t *testing.T) {
	for bits := 2; bits <= 8; bits++ {
		for _, first := range firsts(bits) {
			is(t, first, bits, "", []byte{first})
			marked := first | 1<<(bits-1)
			gets(t, bits, []byte{marked}, got{above: first, size: 1})
			gets(t, bits, []byte{marked, 0xff, 0xff}, got{above: first, size: 1})
		}
	}
}

// P11.1, P11.2: short texts in each number of bits, written out.
func TestEachNumberOfBits(t *testing.T) {
	for _, row := range []struct {
		first      byte
		bits       int
		asIs, few5 string // "ab", as it is; "aaaaaaaa", in five bytes
	}{
		{0xfc, 2, "fd 01 61 62", "ff 04 18 c6 31 8c 63"},
		{0xf8, 3, "fa 61 62", "ff 02 18 c6 31 8c 63"},
		{0xf0, 4, "f2 61 62", "fd 18 c6 31 8c 63"},
		{0xe0, 5, "e2 61 62", "f5 18 c6 31 8c 63"},
		{0xc0, 6, "c2 61 62", "e5 18 c6 31 8c 63"},
		{0x80, 7, "82 61 62", "c5 18 c6 31 8c 63"},
		{0x00, 8, "02 61 62", "85 18 c6 31 8c 63"},
		{0x00, 2, "01 01 61 62", "03 04 18 c6 31 8c 63"},
		{0x50, 4, "52 61 62", "5d 18 c6 31 8c 63"},
		{0x40, 6, "42 61 62", "65 18 c6 31 8c 63"},
	} {
		is(t, row.first, row.bits, "ab", fromHex(t, row.asIs))
		is(t, row.first, row.bits, "aaaaaaaa", fromHex(t, row.few5))
	}
}

// P11.1, P11.2: all first bytes that may be: what stands above stays, what stands in the lowest bits does not.
func TestAllFirstBytes(t *testing.T) {
	for bits := 2; bits <= 8; bits++ {
		for _, first := range firsts(bits) {
			for _, s := range []string{"a", "~", "~~", "302", "custom-key", strings.Repeat("~", 200), strings.Repeat("a text", 50)} {
				is(t, first, bits, s, plainPut(first, bits, s))
			}
		}
	}
}

// P11.1: a text that has as many bytes in the code of few bits as it has as it is, is told as it is; with one byte less, in the code of few bits.
func TestAsManyBytes(t *testing.T) {
	for _, s := range []string{"", "a", "0", "&", "ab", "&&", "&&&", "X;Z", "!::", strings.Repeat("&", 126), strings.Repeat("&", 127), strings.Repeat("&", 300), strings.Repeat("&", api.MaxText)} {
		if huff.Len(s) != len(s) {
			t.Fatalf("%.40q has %d bytes of few bits", s, huff.Len(s))
		}
		for bits := 2; bits <= 8; bits++ {
			is(t, 0, bits, s, plainLaid(0, bits, false, []byte(s), 1))
		}
	}
	for _, size := range []int{8, 9, 100, 127, 128, 129, 5000, api.MaxText - 1, api.MaxText} {
		s := strings.Repeat("&", size-8) + "::::::::" // words of 8 bits and of 7
		few, e := huff.Put(s)
		if e != api.OK || len(few) != len(s)-1 {
			t.Fatalf("%d bytes of few bits, %d, for %d", len(few), e, len(s))
		}
		for bits := 2; bits <= 8; bits++ {
			is(t, 0, bits, s, plainLaid(0, bits, true, few, 1))
			is(t, 0, bits, s[1:]+"!", plainLaid(0, bits, false, []byte(s[1:]+"!"), 1)) // two bits more: a byte more
		}
	}
}

// P11.1: a text that would have more bytes in the code of few bits is told as it is.
func TestMoreBytes(t *testing.T) {
	for _, s := range []string{"~", "~~", "\n", "\x00", "\xff", "a\n", "日本語", "\xc3\x28", strings.Repeat("\n", 1000)} {
		if huff.Len(s) <= len(s) {
			t.Fatalf("%.40q has %d bytes of few bits", s, huff.Len(s))
		}
		for bits := 2; bits <= 8; bits++ {
			is(t, 0, bits, s, plainLaid(0, bits, false, []byte(s), 1))
		}
	}
}

// P11.2: the other way of telling a text is got as well.
func TestTheOtherWay(t *testing.T) {
	r := rand.New(rand.NewSource(20))
	for range 300 {
		s := someText(r, r.Intn(200))
		few, _ := huff.Put(s)
		for bits := 2; bits <= 8; bits++ {
			for _, first := range []byte{0, 0xff << bits} {
				for _, b := range [][]byte{plainLaid(first, bits, true, few, 1), plainLaid(first, bits, false, []byte(s), 1)} {
					gets(t, bits, b, got{above: first, s: s, size: len(b)})
				}
			}
		}
	}
}

// P11.1, P11.2, P11.3: how many bytes there are: a number that fills what is left of the first byte, those beside it, and those at which another byte behind it begins.
func TestSizesAtEdges(t *testing.T) {
	for bits := 2; bits <= 8; bits++ {
		for _, size := range sizes(bits) {
			s := strings.Repeat("~", size)
			is(t, 0, bits, s, plainLaid(0, bits, false, []byte(s), 1))
			if size < 2 {
				continue
			}
			s = ofFew(t, size)
			few, _ := huff.Put(s)
			is(t, 0, bits, s, plainLaid(0, bits, true, few, 1))
		}
	}
}

// P11.1: what stands ahead of a text at these edges, written out.
func TestAheadOfText(t *testing.T) {
	for _, row := range []struct {
		bits, size int
		asIs, few  string
	}{
		{2, 2, "fd 01", "ff 01"},
		{3, 2, "fa", "fe"},
		{3, 3, "fb 00", "ff 00"},
		{4, 6, "f6", "fe"},
		{4, 7, "f7 00", "ff 00"},
		{4, 8, "f7 01", "ff 01"},
		{5, 14, "ee", "fe"},
		{5, 15, "ef 00", "ff 00"},
		{6, 30, "de", "fe"},
		{6, 31, "df 00", "ff 00"},
		{7, 62, "be", "fe"},
		{7, 63, "bf 00", "ff 00"},
		{7, 64, "bf 01", "ff 01"},
		{8, 126, "7e", "fe"},
		{8, 127, "7f 00", "ff 00"},
		{8, 128, "7f 01", "ff 01"},
		{8, 254, "7f 7f", "ff 7f"},
		{8, 255, "7f 80 01", "ff 80 01"},
		{8, 16510, "7f ff 7f", "ff ff 7f"},
		{8, 16511, "7f 80 80 01", "ff 80 80 01"},
		{2, 16384, "fd ff 7f", "ff ff 7f"},
		{2, 16385, "fd 80 80 01", "ff 80 80 01"},
	} {
		first := byte(0xff << row.bits)
		s := strings.Repeat("~", row.size)
		is(t, first, row.bits, s, join(fromHex(t, row.asIs), []byte(s)))
		s = ofFew(t, row.size)
		few, _ := huff.Put(s)
		is(t, first, row.bits, s, join(fromHex(t, row.few), few))
	}
	is(t, 0xfc, 2, "~", fromHex(t, "fd 00 7e")) // no text has one byte in the code of few bits, and more as it is
}

// P11.1, P11.2: a text of MaxText bytes, told either way; one of fewer; none of more.
func TestPutUpToLimit(t *testing.T) {
	r := rand.New(rand.NewSource(21))
	for bits := 2; bits <= 8; bits++ {
		for _, size := range []int{api.MaxText - 1, api.MaxText} {
			for _, s := range []string{strings.Repeat("0", size), strings.Repeat("\n", size), someText(r, size)} {
				is(t, 0, bits, s, plainPut(0, bits, s))
			}
		}
		for _, size := range []int{api.MaxText + 1, api.MaxText + 2, 2 * api.MaxText, api.MaxBytes + 1} {
			for _, x := range []string{"0", "\n", "&"} {
				notPut(t, 0, bits, strings.Repeat(x, size), api.ErrLimit)
			}
		}
	}
	is(t, 0, 8, strings.Repeat("~", api.MaxText), join(fromHex(t, "7f 81 ff 03"), bytes.Repeat([]byte("~"), api.MaxText)))
	is(t, 0, 8, strings.Repeat("0", api.MaxText), join(fromHex(t, "ff 81 bf 02"), make([]byte, 40960)))
}

// P11.1: bits below 2 or above 8 are refused ahead of everything else.
func TestPutWrongBits(t *testing.T) {
	for _, bits := range wrongBits() {
		for _, first := range []byte{0, 1, 0x80, 0xff} {
			for _, s := range []string{"", "a", "custom-key", strings.Repeat("0", api.MaxText+1)} {
				notPut(t, first, bits, s, api.ErrArg)
			}
		}
	}
}

// P11.1: if one of the bits lowest bits of first is set, nothing is put, whatever the text; ahead of its limit.
func TestPutWrongFirst(t *testing.T) {
	long := strings.Repeat("0", api.MaxText+1)
	for bits := 2; bits <= 8; bits++ {
		for first := range 256 {
			if first%(1<<bits) == 0 {
				puts(t, byte(first), bits, "a", plainPut(byte(first), bits, "a"))
				notPut(t, byte(first), bits, long, api.ErrLimit)
				continue
			}
			for _, s := range []string{"", "a", "custom-key", long} {
				notPut(t, byte(first), bits, s, api.ErrArg)
			}
		}
	}
}

// P11.2: bits below 2 or above 8 are refused ahead of everything else.
func TestGetWrongBits(t *testing.T) {
	for _, bits := range wrongBits() {
		for _, row := range []string{"", "00", "01 61", "81 1f", "02 61", "81 ff", "7f", "7f 82 ff 03", "ff ff ff ff ff ff ff ff ff ff ff ff", "ff ff ff ff ff ff ff ff ff ff 01"} {
			refused(t, bits, fromHex(t, row), api.ErrArg)
		}
	}
}

// P11.2: no bytes, and fewer than a text has; what stands there is not read ahead of that.
func TestGetShort(t *testing.T) {
	spare := []byte{0, 0, 0}[:0]
	for bits := 2; bits <= 8; bits++ {
		for _, b := range [][]byte{nil, {}, spare} {
			refused(t, bits, b, api.ErrShort)
		}
		for _, s := range []string{"a", "~~", "custom-key", strings.Repeat("~", 130), ofFew(t, 130), strings.Repeat("~", 300), ofFew(t, 300)} {
			b := plainPut(0, bits, s)
			for size := range b {
				refused(t, bits, b[:size], api.ErrShort) // the other bytes stand in the spare room
			}
		}
		marked := byte(1<<bits - 1)
		refused(t, bits, []byte{marked, 5, 0xff, 0xff, 0xff, 0xff}, api.ErrShort) // no text, but too few bytes first
	}
	for _, s := range []string{strings.Repeat("~", api.MaxText), strings.Repeat("0", api.MaxText)} {
		b := plainPut(0, 8, s)
		for _, size := range []int{4, 5, len(b) / 2, len(b) - 1} {
			refused(t, 8, b[:size], api.ErrShort)
		}
	}
}

// P11.2: a number that may not be, by its own error: without an end, above MaxNumber; whatever stands behind it.
func TestGetWrongNumber(t *testing.T) {
	for bits := 2; bits <= 8; bits++ {
		m := byte(1<<(bits-1) - 1)
		for _, first := range []byte{m, 2*m + 1, 0xff, m | 0xff<<bits} {
			for _, behind := range []int{0, 1, 100} {
				more := make([]byte, behind)
				for _, fill := range []byte{0x80, 0xff} {
					for many := range 10 {
						refused(t, bits, append([]byte{first}, bytes.Repeat([]byte{fill}, many)...), api.ErrShort)
					}
					refused(t, bits, join([]byte{first}, bytes.Repeat([]byte{fill}, 10), more), api.ErrForm)
					refused(t, bits, join([]byte{first}, bytes.Repeat([]byte{fill}, 11), more), api.ErrForm)
				}
				refused(t, bits, join([]byte{first}, bytes.Repeat([]byte{0xff}, 9), []byte{1}, more), api.ErrLimit)
				refused(t, bits, join([]byte{first}, bytes.Repeat([]byte{0x80}, 9), []byte{2}, more), api.ErrLimit) // its lowest 64 bits alone would be small
			}
		}
	}
}

// ahead: a number above what a first byte holds, with no text behind it.
func ahead(bits int, marked bool, n int) []byte {
	b := plainLaid(0, bits, marked, make([]byte, n), 1)
	return b[:len(b)-n]
}

// P11.2: a number above MaxText is refused, though the bytes are there, or fewer, or none; MaxText itself is not.
func TestGetNumberAboveLimit(t *testing.T) {
	for bits := 2; bits <= 8; bits++ {
		for _, marked := range []bool{false, true} {
			for _, n := range []int{api.MaxText + 1, api.MaxText + 2, 2 * api.MaxText, api.MaxBytes, api.MaxBytes + 1} {
				for _, behind := range []int{0, 1, api.MaxText, n - 1, n, n + 1} {
					refused(t, bits, append(ahead(bits, marked, n), bytes.Repeat([]byte{0xf8}, behind)...), api.ErrLimit)
				}
			}
			for _, behind := range []int{0, 1, api.MaxText - 1} {
				refused(t, bits, append(ahead(bits, marked, api.MaxText), bytes.Repeat([]byte{0xff}, behind)...), api.ErrShort)
			}
			b := append(ahead(bits, marked, api.MaxText), bytes.Repeat([]byte{0xf8}, api.MaxText)...)
			s := strings.Repeat("\xf8", api.MaxText)
			if marked {
				s = strings.Repeat("&", api.MaxText)
			}
			gets(t, bits, b, got{s: s, size: len(b)})
		}
		m := byte(1<<(bits-1) - 1)
		for _, rest := range []string{"ff ff ff ff 0f", "80 80 80 80 10", "80 80 80 80 80 80 80 80 40", "80 80 80 80 80 80 80 80 3f", "ff ff ff ff ff ff ff ff 3f", "80 80 80 80 80 80 80 80 80 00 00"} {
			b := append([]byte{m}, fromHex(t, rest)...)
			gets(t, bits, b, plainGet(bits, b))
		}
	}
}

// P11.2: bytes that are no text in the code of few bits are refused so; as they are, they are one.
func TestGetWrongCode(t *testing.T) {
	for _, row := range []string{"ff", "06", "07 ff", "00", "ff ff ff fc ff", "ff ff ff ff", "1f ff ff ff ff", "64 02 ff", "ff ff", "25 a8 49 e9 5b a9 7d 7e"} {
		told := fromHex(t, row)
		if _, e := huff.Get(told); e != api.ErrForm {
			t.Fatalf("huff.Get(%s): %d", row, e)
		}
		for bits := 2; bits <= 8; bits++ {
			refused(t, bits, plainLaid(0, bits, true, told, 1), api.ErrForm)
			refused(t, bits, append(plainLaid(0, bits, true, told, 1), 0xff), api.ErrForm)
			b := plainLaid(0, bits, false, told, 1)
			gets(t, bits, b, got{s: string(told), size: len(b)})
		}
	}
}

// P11.2: a text in the code of few bits may have MaxText bytes, not more; what is no text is refused ahead of that.
func TestGetTextAboveLimit(t *testing.T) {
	for bits := 2; bits <= 8; bits++ {
		for _, size := range []int{api.MaxText - 1, api.MaxText} {
			s := strings.Repeat("0", size)
			few, _ := huff.Put(s)
			b := plainLaid(0, bits, true, few, 1)
			gets(t, bits, append(b, 7), got{s: s, size: len(b)})
		}
	}
	for _, size := range []int{api.MaxText + 1, api.MaxText + 2, 100000, 104857} {
		told := make([]byte, (size*5+7)/8)
		told[len(told)-1] = 1<<(len(told)*8-size*5) - 1
		if s, e := huff.Get(told); len(s) != size || e != api.OK || len(told) > api.MaxText {
			t.Fatalf("huff.Get: %d bytes, %d", len(s), e)
		}
		for _, bits := range []int{2, 5, 8} {
			refused(t, bits, plainLaid(0, bits, true, told, 1), api.ErrLimit)
			refused(t, bits, append(plainLaid(0, bits, true, told, 1), 1, 2), api.ErrLimit)
			wrong := append(bytes.Clone(told[:len(told)-4]), 0xff, 0xff, 0xff, 0xff)
			refused(t, bits, plainLaid(0, bits, true, wrong, 1), api.ErrForm)
		}
	}
}

// P11.2: a number in more bytes than it needs is got, and all of them count.
func TestNumberInMoreBytes(t *testing.T) {
	for bits := 2; bits <= 8; bits++ {
		m := 1<<(bits-1) - 1
		for _, size := range []int{m, m + 1, m + 127, m + 128, m + 300} {
			for atLeast := 1; atLeast <= 10; atLeast++ {
				s := strings.Repeat("~", size)
				b := plainLaid(0, bits, false, []byte(s), atLeast)
				gets(t, bits, append(b, 1), got{s: s, size: len(b)})
				few, _ := huff.Put(s[:size/4])
				b = plainLaid(0, bits, true, few, atLeast)
				gets(t, bits, append(b, 1), got{s: s[:size/4], size: len(b)})
			}
		}
	}
	gets(t, 8, fromHex(t, "7f 80 80 80 80 80 80 80 80 80 00"), got{e: api.ErrShort})
}

// P11.3: what is put is got, whatever stands behind it; it has at most as many bytes as the text and four more.
func TestPutIsGot(t *testing.T) {
	r := rand.New(rand.NewSource(22))
	most := 0
	check := func(s string) {
		t.Helper()
		for bits := 2; bits <= 8; bits++ {
			first := byte(r.Intn(256)) >> bits << bits
			b, e := text.Put(first, bits, s)
			if e != api.OK || !bytes.Equal(b, plainPut(first, bits, s)) || len(b) > len(s)+4 {
				t.Errorf("Put(%02x, %d, %.40q of %d): %.40x of %d, %d", first, bits, s, len(s), b, len(b), e)
			}
			most = max(most, len(b)-len(s))
			other := make([]byte, r.Intn(20))
			r.Read(other)
			for _, behind := range [][]byte{nil, {0}, {0x7f}, {0x80}, bytes.Repeat([]byte{0xff}, 12), b, other} {
				gets(t, bits, join(b, behind), got{above: first, s: s, size: len(b)})
			}
		}
	}
	for range 300 {
		check(someText(r, r.Intn(40)))
	}
	for range 30 {
		check(someText(r, r.Intn(1000)))
	}
	check(someText(r, api.MaxText))
	check(strings.Repeat("~", api.MaxText))
	if most != 4 {
		t.Errorf("at most %d bytes more than a text", most)
	}
}

// P11.3: texts one behind the other are got one after the other.
func TestTextsInARow(t *testing.T) {
	r := rand.New(rand.NewSource(23))
	for bits := 2; bits <= 8; bits++ {
		var texts []string
		var b []byte
		for range 50 {
			s := someText(r, r.Intn(60))
			one, _ := text.Put(0, bits, s)
			texts, b = append(texts, s), append(b, one...)
		}
		for i, want := range texts {
			above, s, size, e := text.Get(bits, b)
			if above != 0 || s != want || size == 0 || e != api.OK {
				t.Fatalf("%d: %02x %q %d %d; want %q", i, above, s, size, e, want)
			}
			b = b[size:]
		}
		if len(b) != 0 {
			t.Errorf("%x is left", b)
		}
	}
}

// P11.1, P11.2: all texts of one byte, and all first bytes with each byte behind them.
func TestAllShort(t *testing.T) {
	for bits := 2; bits <= 8; bits++ {
		for n := range 256 {
			s := string([]byte{byte(n)})
			is(t, 0, bits, s, plainPut(0, bits, s))
			gets(t, bits, []byte{byte(n)}, plainGet(bits, []byte{byte(n)}))
			for _, second := range []byte{0, 1, 2, 7, 0x1f, 0x3f, 0x61, 0x7f, 0x80, 0x81, 0xf8, 0xfe, 0xff} {
				for _, third := range []byte{0, 7, 0xff} {
					b := []byte{byte(n), second, third}
					gets(t, bits, b, plainGet(bits, b))
				}
			}
		}
	}
}

// P11.2: bytes of all kinds, among them such as are put with a bit turned, a byte less or one more.
func TestBytesAgainstPlain(t *testing.T) {
	r := rand.New(rand.NewSource(24))
	for range 2000 {
		bits := 2 + r.Intn(7)
		b := make([]byte, r.Intn(24))
		r.Read(b)
		gets(t, bits, b, plainGet(bits, b))
		b = plainPut(byte(r.Intn(256))>>bits<<bits, bits, someText(r, 1+r.Intn(40)))
		turned := bytes.Clone(b)
		turned[r.Intn(min(len(b), 4))] ^= 1 << r.Intn(8)
		for _, x := range [][]byte{turned, b[1:], b[:len(b)-1], append(bytes.Clone(b), byte(r.Intn(256)))} {
			gets(t, bits, x, plainGet(bits, x))
		}
	}
}

// R4: what is handed in stays as it was, the spare room behind it too; with errors as well.
func TestHandedInStays(t *testing.T) {
	for _, row := range []string{"", "00", "02 7e 7e", "88 25 a8 49 e9 5b a9 7d 7f", "02 61", "81 ff", "7f", "7f 82 ff 03", "ff ff ff ff ff ff ff ff ff ff ff ff"} {
		b := fromHex(t, row)
		want := append(bytes.Clone(b), 1, 2, 3, 4)
		room := bytes.Clone(want)
		for bits := range 10 {
			text.Get(bits, room[:len(b)])
			if !bytes.Equal(room, want) {
				t.Fatalf("Get(%d, %s) changed %x to %x", bits, row, want, room)
			}
		}
	}
}

// R4: an answer is memory of its own: writing over it, its spare room too, changes no other one; nor does writing over what was handed in.
func TestAnswersAreNewMemory(t *testing.T) {
	for _, s := range []string{"", "a", "~~", "www.example.com", strings.Repeat("~", 500), strings.Repeat("a text", 500)} {
		for bits := 2; bits <= 8; bits++ {
			one, _ := text.Put(0, bits, s)
			other, _ := text.Put(0, bits, s)
			for i := range one[:cap(one)] {
				one[:cap(one)][i] ^= 0x55
			}
			if !bytes.Equal(other, plainPut(0, bits, s)) {
				t.Errorf("two answers of Put(0, %d, %.40q) share memory", bits, s)
			}
			puts(t, 0, bits, s, other)
			_, told, _, _ := text.Get(bits, other)
			for i := range other {
				other[i] ^= 0x55
			}
			if told != s {
				t.Errorf("what was got of Put(0, %d, %.40q) changed to %.40q", bits, s, told)
			}
		}
	}
}

// R5: what is told hangs on the arguments alone, not on a call before or on one beside.
func TestHangsOnArgumentsAlone(t *testing.T) {
	var all sync.WaitGroup
	for seed := range int64(8) {
		all.Go(func() {
			r := rand.New(rand.NewSource(seed % 4))
			for range 50 {
				s := someText(r, r.Intn(40))
				bits := 2 + r.Intn(7)
				want := plainPut(0, bits, s)
				refused(t, bits, want[:len(want)-1], api.ErrShort)
				notPut(t, 0xff, bits, s, api.ErrArg)
				is(t, 0, bits, s, want)
				is(t, 0, bits, s, want)
			}
		})
	}
	all.Wait()
}
