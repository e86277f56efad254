package huff_test

import (
	"bytes"
	"encoding/hex"
	"math/rand"
	"strings"
	"sync"
	"testing"

	"mailcoach/api"
	"mailcoach/huff"
)

// fromHex: bytes; blanks aside.
func fromHex(t *testing.T, s string) []byte {
	t.Helper()
	b, err := hex.DecodeString(strings.ReplaceAll(s, " ", ""))
	if err != nil {
		t.Fatal(err)
	}
	return b
}

// is: a text is put as these bytes, is as long as they are, and is got of them.
func is(t *testing.T, s string, want []byte) {
	t.Helper()
	if b, e := huff.Put(s); !bytes.Equal(b, want) || e != api.OK {
		t.Errorf("Put(%.40q): %.40x, %d; want %.40x", s, b, e, want)
	}
	if n := huff.Len(s); n != len(want) {
		t.Errorf("Len(%.40q): %d; want %d", s, n, len(want))
	}
	gets(t, want, s)
}

// gets: of these bytes this text is got.
func gets(t *testing.T, b []byte, want string) {
	t.Helper()
	if s, e := huff.Get(b); s != want || e != api.OK {
		t.Errorf("Get(%.40x): %.40q (%d bytes), %d; want %.40q (%d)", b, s, len(s), e, want, len(want))
	}
}

// refused: nothing is got of these bytes.
func refused(t *testing.T, b []byte, want api.Errno) {
	t.Helper()
	if s, e := huff.Get(b); s != "" || e != want {
		t.Errorf("Get(%.40x): %.40q, %d; want %d", b, s, e, want)
	}
}

// asPlain: of these bytes is got what the chapter's words say; and what is got is put as it was.
func asPlain(t *testing.T, b []byte) {
	t.Helper()
	want, wantError := plainGet(b)
	if wantError != api.OK {
		refused(t, b, wantError)
		return
	}
	is(t, want, b)
}

// someText: so many bytes; of those of few bits alone, or of all.
func someText(r *rand.Rand, size int) string {
	from := "0123456789abcdefghijklmnopqrstuvwxyz-./:=%"
	all := r.Intn(2) == 0
	b := make([]byte, size)
	for i := range b {
		b[i] = from[r.Intn(len(from))]
		if all {
			b[i] = byte(r.Intn(256))
		}
	}
	return string(b)
}

// P10.1, P10.2: the chapter's examples.
func TestExamples(t *testing.T) {
	for _, row := range []struct{ text, bytes string }{
		{"www.example.com", "f1 e3 c2 e5 f2 3a 6b a0 ab 90 f4 ff"},
		{"no-cache", "a8 eb 10 64 9c bf"},
		{"custom-key", "25 a8 49 e9 5b a9 7d 7f"},
		{"custom-value", "25 a8 49 e9 5b b8 e8 b4 bf"},
		{"302", "64 02"},
		{"private", "ae c3 77 1a 4b"},
		{"Mon, 21 Oct 2013 20:13:21 GMT", "d0 7a be 94 10 54 d4 44 a8 20 05 95 04 0b 81 66 e0 82 a6 2d 1b ff"},
		{"https://www.example.com", "9d 29 ad 17 18 63 c7 8f 0b 97 c8 e9 ae 82 ae 43 d3"},
		{"0", "07"},
		{"", ""},
	} {
		is(t, row.text, fromHex(t, row.bytes))
	}
	if n := huff.Len("www.example.com"); n != 12 {
		t.Errorf("Len: %d", n)
	}
	for _, wrong := range []string{"ff", "06", "07 ff", "ff ff ff fc ff"} {
		refused(t, fromHex(t, wrong), api.ErrForm)
	}
}

// P10.1, P10.2: other examples of RFC 7541 (C.4.3, C.6.1 and C.6.3).
func TestExamplesOfRFC(t *testing.T) {
	for _, row := range []struct{ text, bytes string }{
		{"Mon, 21 Oct 2013 20:13:22 GMT", "d0 7a be 94 10 54 d4 44 a8 20 05 95 04 0b 81 66 e0 84 a6 2d 1b ff"},
		{"307", "64 0e ff"},
		{"gzip", "9b d9 ab"},
		{"foo=ASDJKHQKBZXOQWEOPIUAXQWEOIU; max-age=3600; version=1", "94 e7 82 1d d7 f2 e6 c7 b3 35 df df cd 5b 39 60 d5 af 27 08 7f 36 72 c1 ab 27 0f b5 29 1f 95 87 31 60 65 c0 03 ed 4e e5 b1 06 3d 50 07"},
	} {
		is(t, row.text, fromHex(t, row.bytes))
	}
}

// P10.1, P10.2, R4: an empty text and no bytes, as nil and as empty lists with spare room.
func TestOfNone(t *testing.T) {
	if b, e := huff.Put(""); len(b) != 0 || e != api.OK || huff.Len("") != 0 {
		t.Errorf("Put of nothing: %x, %d; Len: %d", b, e, huff.Len(""))
	}
	spare := []byte{7, 7, 7}[:0]
	for _, b := range [][]byte{nil, {}, spare} {
		gets(t, b, "")
	}
}

// P10.1, P10.2, P10.3: a text of each single byte, and of the same byte several times: at each place that a word can have in a byte.
func TestSingleBytes(t *testing.T) {
	for n := range 256 {
		for many := 1; many <= 9; many++ {
			s := strings.Repeat(string([]byte{byte(n)}), many)
			is(t, s, asBytes(strings.Repeat(code[n], many)))
		}
	}
}

// P10.1, P10.2: the bytes of each size of words, written out.
func TestSizesOfWords(t *testing.T) {
	for _, row := range []struct{ text, bytes string }{
		{"0", "07"}, {"a", "1f"}, {" ", "53"}, {":", "b9"}, {"&", "f8"}, {"!", "fe 3f"}, {"|", "ff 9f"}, {"#", "ff af"}, {">", "ff bf"}, {"~", "ff ef"},
		{"\x00", "ff c7"}, {"^", "ff f3"}, {"<", "ff f9"}, {"\\", "ff fe 1f"}, {"\x80", "ff fe 6f"}, {"\x99", "ff fe e7"},
		{"\x81", "ff ff 4b"}, {"\x01", "ff ff b1"}, {"\t", "ff ff ea"}, {"\xc7", "ff ff f6 7f"}, {"\xc0", "ff ff f8 3f"},
		{"\xcb", "ff ff fb df"}, {"\x02", "ff ff fe 2f"}, {"\n", "ff ff ff f3"}, {"\r", "ff ff ff f7"}, {"\x16", "ff ff ff fb"},
	} {
		is(t, row.text, fromHex(t, row.bytes))
	}
}

// P10.1: texts whose bits fill the last byte have nothing behind them; of others, one to seven ones.
func TestLastByte(t *testing.T) {
	for n := range 256 {
		s := strings.Repeat(string([]byte{byte(n)}), 8)
		if b, e := huff.Put(s); len(b) != len(code[n]) || e != api.OK || bitsOfBytes(b) != strings.Repeat(code[n], 8) {
			t.Errorf("Put(%q): %x, %d", s, b, e)
		}
	}
	filled := map[int]bool{}
	for _, s := range []string{"&", ":", " ", "0", "a:", "|", "!", "aaaaa"} {
		b, e := huff.Put(s)
		bits := bitsOfBytes(b)
		missing := len(bits) - len(bitsOfText(s))
		filled[missing] = true
		if e != api.OK || !strings.HasPrefix(bits, bitsOfText(s)) || bits[len(bits)-missing:] != strings.Repeat("1", missing) {
			t.Errorf("Put(%q): %s, %d", s, bits, e)
		}
	}
	if len(filled) != 8 {
		t.Errorf("of 0 to 7 bits that are filled, some were not tried: %v", filled)
	}
}

// P10.1, P10.3: texts of up to MaxText bytes, of the shortest words, of the longest and of all.
func TestPutUpToLimit(t *testing.T) {
	r := rand.New(rand.NewSource(10))
	for _, size := range []int{api.MaxText - 1, api.MaxText} {
		for _, s := range []string{strings.Repeat("0", size), strings.Repeat("\n", size), someText(r, size), someText(r, size), someText(r, size)} {
			want, _ := plainPut(s)
			is(t, s, want)
		}
	}
	if n := huff.Len(strings.Repeat("\n", api.MaxText)); n != 245760 {
		t.Errorf("Len of the longest words: %d", n)
	}
}

// P10.1: a text of more than MaxText bytes is not put.
func TestPutAboveLimit(t *testing.T) {
	for _, size := range []int{api.MaxText + 1, api.MaxText + 2, 2 * api.MaxText, api.MaxBytes, api.MaxBytes + 1} {
		for _, x := range []string{"0", "\n", "\xff"} {
			if b, e := huff.Put(strings.Repeat(x, size)); len(b) != 0 || e != api.ErrLimit {
				t.Errorf("Put of %d bytes: %.40x, %d", size, b, e)
			}
		}
	}
}

// P10.1: Len tells of texts of any length, those that are not put too.
func TestLenOfAnyLength(t *testing.T) {
	for _, row := range []struct{ size, of0, ofLongest int }{
		{api.MaxText + 1, 40961, 245764},
		{api.MaxText + 8, 40965, 245790},
		{api.MaxBytes, 655360, 3932160},
		{api.MaxBytes + 1, 655361, 3932164},
		{1 << 24, 10485760, 62914560},
	} {
		if n := huff.Len(strings.Repeat("0", row.size)); n != row.of0 {
			t.Errorf("Len of %d 0: %d; want %d", row.size, n, row.of0)
		}
		if n := huff.Len(strings.Repeat("\n", row.size)); n != row.ofLongest {
			t.Errorf("Len of %d line ends: %d; want %d", row.size, n, row.ofLongest)
		}
	}
	s := someText(rand.New(rand.NewSource(11)), 3*api.MaxText+5)
	if n, want := huff.Len(s), (len(bitsOfText(s))+7)/8; n != want {
		t.Errorf("Len: %d; want %d", n, want)
	}
}

// P10.2: MaxBytes bytes are got, though their text may be longer than one that is put.
func TestGetUpToLimit(t *testing.T) {
	for _, size := range []int{api.MaxBytes - 1, api.MaxBytes} {
		many := size * 8 / 5
		b := make([]byte, size)
		b[size-1] = 1<<(size*8-5*many) - 1
		gets(t, b, strings.Repeat("0", many))
		refused(t, bytes.Repeat([]byte{0xff}, size), api.ErrForm)
		gets(t, bytes.Repeat([]byte{0xf8}, size), strings.Repeat("&", size))
		b = bytes.Repeat([]byte{0xf8}, size)
		b[size-1] = 0xff
		refused(t, b, api.ErrForm)
	}
	refused(t, make([]byte, api.MaxBytes), api.ErrForm) // three noughts are left
}

// P10.2: more than MaxBytes bytes are refused by their number, whatever they are.
func TestGetAboveLimit(t *testing.T) {
	for _, size := range []int{api.MaxBytes + 1, api.MaxBytes + 2, 2 * api.MaxBytes} {
		for _, x := range []byte{0xf8, 0, 0xff} {
			refused(t, bytes.Repeat([]byte{x}, size), api.ErrLimit)
		}
	}
}

// P10.2: the word 256 is refused wherever it stands: alone, ahead of a text, behind one, between two; though all else is well.
func TestTheEndIsRefused(t *testing.T) {
	for _, row := range []string{"ff ff ff ff", "ff ff ff fc", "ff ff ff fd", "ff ff ff fe", "ff ff ff fc 1f", "07 ff ff ff ff", "1f ff ff ff ff"} {
		refused(t, fromHex(t, row), api.ErrForm)
	}
	texts := []string{"", "0", "a", "&", "&&", "~", "a text", "\n", "\xff\x00", strings.Repeat("xyz", 100)}
	for _, ahead := range texts {
		for _, behind := range texts {
			bits := bitsOfText(ahead) + code[theEnd] + bitsOfText(behind)
			refused(t, asBytes(bits), api.ErrForm)
			refused(t, asBytes(bits+code[theEnd]), api.ErrForm)
			gets(t, asBytes(bitsOfText(ahead)+bitsOfText(behind)), ahead+behind)
		}
	}
}

// P10.2: up to seven ones may be left; with eight or more, nothing is got.
func TestTooManyBitsLeft(t *testing.T) {
	r := rand.New(rand.NewSource(12))
	left := map[int]bool{}
	for range 300 {
		s := someText(r, r.Intn(12))
		bits := bitsOfText(s)
		b := asBytes(bits)
		left[8*len(b)-len(bits)] = true
		gets(t, b, s)
		for more := 1; more <= 4; more++ { // by four at the latest the word 256 is among them
			refused(t, append(bytes.Clone(b), bytes.Repeat([]byte{0xff}, more)...), api.ErrForm)
		}
	}
	if len(left) != 8 {
		t.Errorf("of 0 to 7 bits that are left, some were not tried: %v", left)
	}
}

// P10.2: a word of which bits are missing is refused, whether those that are left are ones or not.
func TestCutWords(t *testing.T) {
	for n := range theEnd + 1 {
		for _, ahead := range []string{"", "0", "&", "a text"} {
			for size := range len(code[n]) {
				bits := bitsOfText(ahead) + code[n][:size]
				if len(bits)%8 != 0 {
					continue
				}
				if size < 8 && !strings.Contains(code[n][:size], "0") {
					gets(t, asBytes(bits), ahead)
				} else {
					refused(t, asBytes(bits), api.ErrForm)
				}
			}
		}
	}
}

// P10.2: bits that are left and are not all ones are refused.
func TestLeftBitsThatAreNoOnes(t *testing.T) {
	r := rand.New(rand.NewSource(13))
	for range 300 {
		s := someText(r, 1+r.Intn(12))
		b := asBytes(bitsOfText(s))
		missing := 8*len(b) - len(bitsOfText(s))
		for left := range 1 << missing {
			other := bytes.Clone(b)
			other[len(b)-1] = b[len(b)-1]>>missing<<missing | byte(left)
			switch {
			case left == 1<<missing-1:
				gets(t, other, s)
			case missing < 5: // no word has so few bits
				refused(t, other, api.ErrForm)
			default:
				asPlain(t, other)
			}
		}
	}
	for _, row := range []string{"00", "01", "02", "03", "04", "05", "06", "1e", "52", "b8", "fe", "ff c6", "64 0e fe"} {
		refused(t, fromHex(t, row), api.ErrForm)
	}
}

// P10.2, P10.3: all rows of one and two bytes: what the chapter's words say, and what is got is put so.
func TestAllShortBytes(t *testing.T) {
	for first := range 256 {
		asPlain(t, []byte{byte(first)})
		for second := range 256 {
			asPlain(t, []byte{byte(first), byte(second)})
		}
	}
}

// P10.1, P10.2, P10.3: all texts of two bytes.
func TestAllTextsOfTwo(t *testing.T) {
	for first := range 256 {
		for second := range 256 {
			is(t, string([]byte{byte(first), byte(second)}), asBytes(code[first]+code[second]))
		}
	}
}

// P10.1, P10.3: texts of all kinds: what the chapter's words say, and got again.
func TestTextsAgainstPlain(t *testing.T) {
	r := rand.New(rand.NewSource(14))
	for range 3000 {
		s := someText(r, r.Intn(60))
		want, _ := plainPut(s)
		is(t, s, want)
	}
	for _, s := range []string{"ä", "日本語", "\xc3", "\xff\xfe", "a\x00b", "\U0001f600"} { // bytes, not runes
		want, _ := plainPut(s)
		is(t, s, want)
	}
}

// P10.2, P10.3: bytes of all kinds, among them such as are put with a bit turned, a byte less or one more.
func TestBytesAgainstPlain(t *testing.T) {
	r := rand.New(rand.NewSource(15))
	for range 3000 {
		b := make([]byte, r.Intn(12))
		r.Read(b)
		asPlain(t, b)
		b, _ = plainPut(someText(r, 1+r.Intn(20)))
		turned := bytes.Clone(b)
		turned[r.Intn(len(b))] ^= 1 << r.Intn(8)
		asPlain(t, turned)
		asPlain(t, b[:len(b)-1])
		asPlain(t, b[1:])
		asPlain(t, append(b, byte(r.Intn(256))))
	}
}

// P10.3: what is got is put as it was, and no other bytes are got as the same text.
func TestOneFormOfEachText(t *testing.T) {
	seen := map[string][]byte{}
	for n := range 1 << 16 {
		b := []byte{byte(n >> 8), byte(n)}
		s, e := huff.Get(b)
		if e != api.OK {
			continue
		}
		if other, was := seen[s]; was {
			t.Errorf("%q is got of %x and of %x", s, other, b)
		}
		seen[s] = b
		if again, e := huff.Put(s); !bytes.Equal(again, b) || e != api.OK {
			t.Errorf("%q is got of %x, and put as %x, %d", s, b, again, e)
		}
	}
	if len(seen) == 0 {
		t.Error("nothing was got")
	}
}

// P10.3: the bits of two texts, one behind the other, are those of both texts.
func TestTwoTexts(t *testing.T) {
	r := rand.New(rand.NewSource(16))
	for range 1000 {
		s, other := someText(r, r.Intn(20)), someText(r, r.Intn(20))
		bits := putBits(t, s) + putBits(t, other)
		if both := putBits(t, s+other); both != bits {
			t.Errorf("%q and %q: %s; want %s", s, other, both, bits)
		}
		gets(t, asBytes(bits), s+other)
	}
	for n := range 256 { // where the bits fill the bytes, the bytes are those of both too
		s := strings.Repeat(string([]byte{byte(n)}), 8)
		b, _ := huff.Put(s)
		behind, _ := huff.Put("and more")
		is(t, s+"and more", append(b, behind...))
	}
}

// putBits: what Put tells of a text, without what fills the last byte.
func putBits(t *testing.T, s string) string {
	t.Helper()
	b, e := huff.Put(s)
	bits := bitsOfBytes(b)
	size := 0
	for _, x := range []byte(s) {
		size += len(code[x])
	}
	if e != api.OK || len(bits) < size {
		t.Fatalf("Put(%q): %s, %d", s, bits, e)
	}
	return bits[:size]
}

// R4: what is handed in stays as it was, the spare room behind it too; with errors as well.
func TestHandedInStays(t *testing.T) {
	for _, row := range []string{"07", "f1 e3 c2 e5 f2 3a 6b a0 ab 90 f4 ff", "ff", "06", "ff ff ff fc ff", ""} {
		b := fromHex(t, row)
		room := append(bytes.Clone(b), 1, 2, 3, 4)
		huff.Get(room[:len(b)])
		if !bytes.Equal(room, append(bytes.Clone(b), 1, 2, 3, 4)) {
			t.Errorf("Get changed %x to %x", b, room)
		}
	}
	large := make([]byte, api.MaxBytes+1)
	huff.Get(large)
	if !bytes.Equal(large, make([]byte, api.MaxBytes+1)) {
		t.Error("Get changed what was too much")
	}
}

// R4: an answer is memory of its own: writing over it, its spare room too, changes no other one; nor does writing over what was handed in.
func TestAnswersAreNewMemory(t *testing.T) {
	for _, s := range []string{"", "0", "www.example.com", strings.Repeat("a text", 500)} {
		first, _ := huff.Put(s)
		second, _ := huff.Put(s)
		kept := bytes.Clone(second)
		for i := range first[:cap(first)] {
			first[:cap(first)][i] ^= 0x55
		}
		if !bytes.Equal(second, kept) {
			t.Errorf("two answers of Put(%.40q) share memory", s)
		}
		is(t, s, kept)
		got, _ := huff.Get(second)
		want := strings.Clone(got)
		for i := range second {
			second[i] ^= 0x55
		}
		if got != want || got != s {
			t.Errorf("what was got of Put(%.40q) changed to %.40q", s, got)
		}
	}
}

// R5: what is told hangs on the arguments alone, not on a call before or on one beside.
func TestHangsOnArgumentsAlone(t *testing.T) {
	var all sync.WaitGroup
	for seed := range int64(8) {
		all.Go(func() {
			r := rand.New(rand.NewSource(seed % 4))
			for range 100 {
				s := someText(r, r.Intn(40))
				want, _ := plainPut(s)
				refused(t, append(bytes.Clone(want), 0xff), api.ErrForm)
				is(t, s, want)
				is(t, s, want)
			}
		})
	}
	all.Wait()
}
