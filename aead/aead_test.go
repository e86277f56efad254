package aead_test

import (
	"bytes"
	"encoding/binary"
	"encoding/hex"
	"math/big"
	"math/bits"
	"math/rand"
	"strings"
	"sync"
	"testing"

	"mailcoach/aead"
	"mailcoach/api"
)

const tagSize = 16

// sizes: none, few; around a multiple of 16 and around a block of the stream.
var sizes = []int{0, 1, 2, 14, 15, 16, 17, 18, 31, 32, 33, 63, 64, 65, 66, 127, 128, 129, 255, 256, 257, 1200}

func unhex(t *testing.T, s string) []byte {
	t.Helper()
	b, err := hex.DecodeString(strings.Join(strings.Fields(s), ""))
	if err != nil {
		t.Fatal(err)
	}
	return b
}

// some bytes, the same ones for the same size and seed.
func some(size int, seed int64) []byte {
	b := make([]byte, size)
	rand.New(rand.NewSource(seed)).Read(b)
	return b
}

func someKey(seed int64) []byte { return some(32, seed) }

func someNonce(seed int64) []byte { return some(12, seed+1000) }

// all: so many bytes that are all x.
func all(size int, x byte) []byte { return bytes.Repeat([]byte{x}, size) }

// changed: bytes of which the one at a place is another one.
func changed(b []byte, place int, by byte) []byte {
	other := bytes.Clone(b)
	other[place] ^= by
	return other
}

// chapterCase: the key, the nonce, the text and what is beside it that the chapter's examples take.
func chapterCase() (key, nonce, plain, beside []byte) {
	for i := range 32 {
		key = append(key, byte(0x80+i))
	}
	nonce = []byte{7, 0, 0, 0, 0x40, 0x41, 0x42, 0x43, 0x44, 0x45, 0x46, 0x47}
	plain = []byte("Ladies and Gentlemen of the class of '99: If I could offer you only one tip for the future, sunscreen would be it.")
	beside = []byte{0x50, 0x51, 0x52, 0x53, 0xc0, 0xc1, 0xc2, 0xc3, 0xc4, 0xc5, 0xc6, 0xc7}
	return key, nonce, plain, beside
}

// chapterSealed: that text sealed.
func chapterSealed(t *testing.T) []byte {
	return unhex(t, `d31a8d34 648e60db 7b86afbc 53ef7ec2 a4aded51 296e08fe a9e2b5a7 36ee62d6 3dbea45e 8ca96712 82fafb69 da92728b
		1a71de0a 9e060b29 05d6a5b6 7ecd3b36 92ddbd7f 2d778b8c 9803aee3 28091b58 fab324e4 fad67594 5585808b 4831d7bc 3ff4def0 8e4b7a9d
		e576d265 86cec64b 6116 1ae10b59 4f09e26a 7e902ecb d0600691`)
}

// plainBlock: a block of the stream, written out as the RFC writes it.
func plainBlock(key []byte, count uint32, nonce []byte) []byte {
	start := make([]uint32, 16)
	whole := append([]byte("expand 32-byte k"), key...)
	whole = binary.LittleEndian.AppendUint32(whole, count)
	whole = append(whole, nonce...)
	for i := range start {
		start[i] = binary.LittleEndian.Uint32(whole[4*i:])
	}
	s := append([]uint32(nil), start...)
	quarter := func(a, b, c, d int) {
		s[a] += s[b]
		s[d] = bits.RotateLeft32(s[d]^s[a], 16)
		s[c] += s[d]
		s[b] = bits.RotateLeft32(s[b]^s[c], 12)
		s[a] += s[b]
		s[d] = bits.RotateLeft32(s[d]^s[a], 8)
		s[c] += s[d]
		s[b] = bits.RotateLeft32(s[b]^s[c], 7)
	}
	for range 10 {
		for column := range 4 {
			quarter(column, 4+column, 8+column, 12+column)
		}
		for column := range 4 {
			quarter(column, 4+(column+1)%4, 8+(column+2)%4, 12+(column+3)%4)
		}
	}
	var b []byte
	for i := range s {
		b = binary.LittleEndian.AppendUint32(b, s[i]+start[i])
	}
	return b
}

// plainXor: bytes against the stream from the count 1 on.
func plainXor(key, nonce, b []byte) []byte {
	out := bytes.Clone(b)
	for at := 0; at < len(out); at += 64 {
		for i, x := range plainBlock(key, uint32(1+at/64), nonce) {
			if at+i < len(out) {
				out[at+i] ^= x
			}
		}
	}
	return out
}

// numberOf: the number of bytes, the lowest first.
func numberOf(b []byte) *big.Int {
	turned := make([]byte, len(b))
	for i, x := range b {
		turned[len(b)-1-i] = x
	}
	return new(big.Int).SetBytes(turned)
}

// plainPoly: Poly1305 by numbers of any size.
func plainPoly(key, b []byte) []byte {
	prime := new(big.Int).Sub(new(big.Int).Lsh(big.NewInt(1), 130), big.NewInt(5))
	mask, _ := new(big.Int).SetString("0ffffffc0ffffffc0ffffffc0fffffff", 16)
	r, a := numberOf(key[:16]), new(big.Int)
	r.And(r, mask)
	for ; len(b) > 0; b = b[min(16, len(b)):] {
		a.Add(a, numberOf(append(bytes.Clone(b[:min(16, len(b))]), 1)))
		a.Mul(a, r)
		a.Mod(a, prime)
	}
	a.Add(a, numberOf(key[16:]))
	tag := make([]byte, 16)
	for i := range tag {
		tag[i] = byte(new(big.Int).Rsh(a, uint(8*i)).Uint64())
	}
	return tag
}

// plainTag: the tag as the chapter's words say it, written out.
func plainTag(key, nonce, hidden, beside []byte) []byte {
	var b []byte
	fill := func() {
		for len(b)%16 != 0 {
			b = append(b, 0)
		}
	}
	b = append(b, beside...)
	fill()
	b = append(b, hidden...)
	fill()
	b = binary.LittleEndian.AppendUint64(b, uint64(len(beside)))
	b = binary.LittleEndian.AppendUint64(b, uint64(len(hidden)))
	return plainPoly(plainBlock(key, 0, nonce)[:32], b)
}

// plainSeal: sealed bytes as the chapter's words say them, written out, to hold the program against.
func plainSeal(key, nonce, plain, beside []byte) []byte {
	hidden := plainXor(key, nonce, plain)
	return append(hidden, plainTag(key, nonce, hidden, beside)...)
}

func wantSeal(t *testing.T, key, nonce, plain, beside, want []byte) {
	t.Helper()
	b, e := aead.Seal(key, nonce, plain, beside)
	if e != api.OK || len(b) != len(plain)+tagSize {
		t.Errorf("Seal of %d bytes, %d beside: %d bytes, %d", len(plain), len(beside), len(b), e)
	} else if !bytes.Equal(b, want) {
		t.Errorf("Seal of %d bytes, %d beside: %x, tag %x; not %x, tag %x", len(plain), len(beside), head(b), tail(b), head(want), tail(want))
	}
}

func wantNoSeal(t *testing.T, key, nonce, plain, beside []byte, want api.Errno) {
	t.Helper()
	if b, e := aead.Seal(key, nonce, plain, beside); len(b) != 0 || e != want {
		t.Errorf("Seal by %d and %d bytes of %d, %d beside: %d bytes, %d, not %d", len(key), len(nonce), len(plain), len(beside), len(b), e, want)
	}
}

func wantOpen(t *testing.T, key, nonce, sealed, beside, want []byte) {
	t.Helper()
	b, e := aead.Open(key, nonce, sealed, beside)
	if e != api.OK || !bytes.Equal(b, want) {
		t.Errorf("Open of %d bytes, %d beside: %d bytes %x, %d, not %x", len(sealed), len(beside), len(b), head(b), e, head(want))
	}
}

func wantNoOpen(t *testing.T, key, nonce, sealed, beside []byte, want api.Errno) {
	t.Helper()
	if b, e := aead.Open(key, nonce, sealed, beside); len(b) != 0 || e != want {
		t.Errorf("Open by %d and %d bytes of %d, %d beside: %d bytes, %d, not %d", len(key), len(nonce), len(sealed), len(beside), len(b), e, want)
	}
}

func head(b []byte) []byte { return b[:min(len(b), 80)] }

func tail(b []byte) []byte { return b[max(0, len(b)-tagSize):] }

// checkPlain: what is sealed is what the chapter's words say, and it is opened again.
func checkPlain(t *testing.T, key, nonce, plain, beside []byte) {
	t.Helper()
	want := plainSeal(key, nonce, plain, beside)
	wantSeal(t, key, nonce, plain, beside, want)
	wantOpen(t, key, nonce, want, beside, plain)
}

// P6.1, P6.2: the chapter's examples.
func TestExamples(t *testing.T) {
	key, nonce, plain, beside := chapterCase()
	sealed := chapterSealed(t)
	wantSeal(t, key, nonce, plain, beside, sealed)
	wantOpen(t, key, nonce, sealed, beside, plain)
	wantNoOpen(t, key, nonce, changed(sealed, len(sealed)-1, 1), beside, api.ErrTag)
	wantNoOpen(t, key, nonce, sealed, nil, api.ErrTag)
	wantNoOpen(t, key, nonce, sealed[:15], nil, api.ErrShort)
	wantNoSeal(t, key[:31], nonce, plain, beside, api.ErrArg)
	wantNoOpen(t, key, nonce[:11], sealed[:3], beside, api.ErrArg)
}

// P6.1, P6.2: the example of RFC 8439 (A.5).
func TestExampleOfRFC(t *testing.T) {
	key := unhex(t, "1c9240a5 eb55d38a f3338886 04f6b5f0 473917c1 402b8009 9dca5cbc 207075c0")
	nonce := unhex(t, "00000000 01020304 05060708")
	beside := unhex(t, "f3338886 00000000 00004e91")
	plain := []byte("Internet-Drafts are draft documents valid for a maximum of six months and may be updated, replaced, or obsoleted by other documents at any time. It is inappropriate to use Internet-Drafts as reference material or to cite them other than as /\u201cwork in progress./\u201d")
	sealed := unhex(t, `64a08615 75861af4 60f062c7 9be643bd 5e805cfd 345cf389 f108670a c76c8cb2 4c6cfc18 755d43ee a09ee94e 382d26b0
		bdb7b73c 321b0100 d4f03b7f 355894cf 332f830e 710b97ce 98c8a84a bd0b9481 14ad176e 008d33bd 60f982b1 ff37c855
		9797a06e f4f0ef61 c186324e 2b350638 3606907b 6a7c02b0 f9f6157b 53c867e4 b9166c76 7b804d46 a59b5216 cde7a4e9
		9040c5a4 0433225e e282a1b0 a06c523e af4534d7 f83fa115 5b004771 8cbc546a 0d072b04 b3564eea 1b422273 f548271a
		0bb23160 53fa7699 1955ebd6 3159434e cebb4e46 6dae5a10 73a67276 27097a10 49e617d9 1d361094 fa68f0ff 77987130
		305beaba 2eda04df 997b714d 6c6f2c29 a6ad5cb4 022b0270 9b eead9d67 890cbb22 392336fe a1851f38`)
	wantSeal(t, key, nonce, plain, beside, sealed)
	wantOpen(t, key, nonce, sealed, beside, plain)
}

// P6.1, P6.2, P6.3: plain and beside of all sizes around the edges: what the chapter's words say, written out, and opened again.
func TestAgainstPlain(t *testing.T) {
	for _, size := range sizes {
		for _, room := range sizes {
			key, nonce := someKey(int64(size)), someNonce(int64(room))
			checkPlain(t, key, nonce, some(size, 1), some(room, 2))
		}
		checkPlain(t, all(32, 0), all(12, 0), all(size, 0), all(size, 0))
		checkPlain(t, all(32, 0xff), all(12, 0xff), all(size, 0xff), all(size, 0xff))
	}
}

// P6.1, P6.2, P6.3: the same at all small sizes, by many keys.
func TestSmallAgainstPlain(t *testing.T) {
	for size := range 70 {
		for room := range 35 {
			seed := int64(100*size + room)
			checkPlain(t, someKey(seed), someNonce(seed), some(size, seed+1), some(room, seed+2))
		}
	}
}

// P6.1, P6.2, P6.3: plain and beside of up to MaxBytes bytes are taken, sealed of up to MaxBytes + 16.
func TestUpToLimit(t *testing.T) {
	key, nonce := someKey(10), someNonce(11)
	plain, beside := some(api.MaxBytes, 12), some(api.MaxBytes, 13)
	for _, c := range []struct{ size, room int }{
		{api.MaxBytes, 0}, {0, api.MaxBytes}, {api.MaxBytes, api.MaxBytes}, {api.MaxBytes - 1, 1}, {1, api.MaxBytes - 1}, {api.MaxBytes - 15, api.MaxBytes - 16},
	} {
		checkPlain(t, key, nonce, plain[:c.size], beside[:c.room])
	}
}

// wrongSizes: of keys and of nonces, each with those that the other one has.
func wrongSizes(right int) (list []int) {
	for size := range 70 {
		if size != right {
			list = append(list, size)
		}
	}
	return append(list, 1200, api.MaxBytes+1)
}

// P6.1, P6.2, R2: a key that has not 32 bytes, a nonce that has not 12, or both, answer ErrArg; ahead of whatever else is wrong.
func TestWrongKeysAndNonces(t *testing.T) {
	key, nonce := some(api.MaxBytes+1, 20), some(api.MaxBytes+1, 21)
	wide := make([]byte, api.MaxBytes+17)
	refused := func(key, nonce []byte) {
		t.Helper()
		for _, b := range [][]byte{nil, wide[:3], wide[:15], wide[:16], wide[:17], wide} {
			for _, beside := range [][]byte{nil, wide[:5], wide} {
				wantNoSeal(t, key, nonce, b, beside, api.ErrArg)
				wantNoOpen(t, key, nonce, b, beside, api.ErrArg)
			}
		}
	}
	for _, size := range wrongSizes(32) {
		refused(key[:size], nonce[:12])
		refused(key[:size], nonce[:11])
	}
	for _, size := range wrongSizes(12) {
		refused(key[:32], nonce[:size])
		refused(key[:33], nonce[:size])
	}
	refused(nil, nonce[:12])
	refused(key[:32], nil)
	refused(nil, nil)
	refused(nonce[:12], key[:32])
}

// P6.1, P6.2: how much room is behind a key or a nonce does not count.
func TestRoomBehindKeys(t *testing.T) {
	key, nonce := some(100, 22), some(100, 23)
	plain, beside := some(40, 24), some(20, 25)
	want := plainSeal(key[:32], nonce[:12], plain, beside)
	wantSeal(t, key[:32], nonce[:12], plain, beside, want)
	wantOpen(t, key[:32], nonce[:12], want, beside, plain)
	wantNoSeal(t, key[:31], nonce[:12], plain, beside, api.ErrArg)
	wantNoSeal(t, key[:32], nonce[:11], plain, beside, api.ErrArg)
	wantNoOpen(t, key[:31], nonce[:12], want, beside, api.ErrArg)
	wantNoOpen(t, key[:32], nonce[:11], want, beside, api.ErrArg)
}

// P6.1: plain or beside of more than MaxBytes bytes, or both, answer ErrLimit.
func TestSealAboveLimit(t *testing.T) {
	key, nonce, wide := someKey(30), someNonce(31), make([]byte, 3*api.MaxBytes)
	for _, over := range []int{api.MaxBytes + 1, api.MaxBytes + 16, api.MaxBytes + 17, 3 * api.MaxBytes} {
		for _, other := range []int{0, 1, api.MaxBytes, api.MaxBytes + 1} {
			wantNoSeal(t, key, nonce, wide[:over], wide[:other], api.ErrLimit)
			wantNoSeal(t, key, nonce, wide[:other], wide[:over], api.ErrLimit)
		}
	}
}

// P6.2: sealed of more than MaxBytes + 16 bytes, or beside of more than MaxBytes, answer ErrLimit; ahead of ErrTag, which would fit too.
func TestOpenAboveLimit(t *testing.T) {
	key, nonce, wide := someKey(32), someNonce(33), make([]byte, 3*api.MaxBytes)
	for _, over := range []int{api.MaxBytes + 17, api.MaxBytes + 18, api.MaxBytes + 33, 3 * api.MaxBytes} {
		for _, room := range []int{0, 1, api.MaxBytes, api.MaxBytes + 1} {
			wantNoOpen(t, key, nonce, wide[:over], wide[:room], api.ErrLimit)
		}
	}
	for _, over := range []int{api.MaxBytes + 1, api.MaxBytes + 16, api.MaxBytes + 17, 3 * api.MaxBytes} {
		for _, size := range []int{16, 17, 100, api.MaxBytes + 16, api.MaxBytes + 17} {
			wantNoOpen(t, key, nonce, wide[:size], wide[:over], api.ErrLimit)
		}
	}
	wantNoOpen(t, key, nonce, wide[:api.MaxBytes+16], wide[:api.MaxBytes], api.ErrTag)
}

// P6.2: bytes beside that are too many are refused by their number, were they sealed so.
func TestOpenRefusesWhatFits(t *testing.T) {
	key, nonce := someKey(34), someNonce(35)
	wide := some(api.MaxBytes+1, 36)
	wantNoOpen(t, key, nonce, plainSeal(key, nonce, nil, wide), wide, api.ErrLimit)
	wantNoOpen(t, key, nonce, plainSeal(key, nonce, wide, nil), nil, api.ErrLimit)
}

// P6.2: sealed of fewer than 16 bytes answers ErrShort; ahead of the ErrLimit of what is beside.
func TestOpenShort(t *testing.T) {
	key, nonce, wide := someKey(36), someNonce(37), make([]byte, api.MaxBytes+1)
	whole := plainSeal(key, nonce, nil, nil)
	for size := range tagSize {
		for _, beside := range [][]byte{nil, {}, wide[:1], wide[:api.MaxBytes], wide} {
			wantNoOpen(t, key, nonce, whole[:size], beside, api.ErrShort)
			wantNoOpen(t, key, nonce, whole[tagSize-size:], beside, api.ErrShort)
		}
	}
	wantNoOpen(t, key, nonce, nil, nil, api.ErrShort)
}

// P6.2, P6.3: sealed of exactly 16 bytes is the tag of nothing: opened to nothing, or refused.
func TestOpenOfTagAlone(t *testing.T) {
	for _, room := range sizes {
		key, nonce, beside := someKey(38), someNonce(int64(room)), some(room, 39)
		tag := plainSeal(key, nonce, nil, beside)
		if len(tag) != tagSize {
			t.Fatalf("%d bytes", len(tag))
		}
		wantOpen(t, key, nonce, tag, beside, nil)
		wantNoOpen(t, key, nonce, make([]byte, tagSize), beside, api.ErrTag)
	}
}

// P6.2, P6.3: with whatever bit of the tag another one, or all of them, sealed bytes are refused.
func TestOtherTags(t *testing.T) {
	for _, size := range []int{0, 1, 15, 16, 17, 64, 114} {
		key, nonce, beside := someKey(40), someNonce(int64(size)), some(size/2, 41)
		sealed := plainSeal(key, nonce, some(size, 42), beside)
		for i := range tagSize {
			for x := 1; x < 256; x++ {
				wantNoOpen(t, key, nonce, changed(sealed, size+i, byte(x)), beside, api.ErrTag)
			}
		}
		for i := range tagSize {
			for j := range i {
				wantNoOpen(t, key, nonce, changed(changed(sealed, size+i, 0x5a), size+j, 0x5a), beside, api.ErrTag)
			}
		}
		for _, tag := range [][]byte{all(tagSize, 0), all(tagSize, 0xff), some(tagSize, 43)} {
			wantNoOpen(t, key, nonce, append(bytes.Clone(sealed[:size]), tag...), beside, api.ErrTag)
		}
	}
}

// P6.2: with a byte of what is sealed, of beside, of the key or of the nonce another one, sealed bytes are refused.
func TestOtherBytes(t *testing.T) {
	key, nonce, plain, beside := chapterCase()
	sealed := chapterSealed(t)
	for bit := range 8 {
		by := byte(1) << bit
		for i := range plain {
			wantNoOpen(t, key, nonce, changed(sealed, i, by), beside, api.ErrTag)
		}
		for i := range beside {
			wantNoOpen(t, key, nonce, sealed, changed(beside, i, by), api.ErrTag)
		}
		for i := range key {
			wantNoOpen(t, changed(key, i, by), nonce, sealed, beside, api.ErrTag)
		}
		for i := range nonce {
			wantNoOpen(t, key, changed(nonce, i, by), sealed, beside, api.ErrTag)
		}
	}
}

// P6.2: bytes that move from beside to what is sealed, a byte 00 more or less at either's end, a beside that is not there: refused, though filled up they may be the same.
func TestOtherSizes(t *testing.T) {
	key, nonce := someKey(50), someNonce(51)
	for _, size := range []int{1, 8, 15, 16, 17, 31, 32, 48} {
		plain, beside := some(size, 52), append(some(size, 53), 0)
		sealed := plainSeal(key, nonce, plain, beside)
		hidden, tag := sealed[:size], sealed[size:]
		refused := func(hidden, beside []byte) {
			t.Helper()
			wantNoOpen(t, key, nonce, append(bytes.Clone(hidden), tag...), beside, api.ErrTag)
		}
		refused(hidden, nil)
		refused(hidden, beside[:size])
		refused(hidden, append(bytes.Clone(beside), 0))
		refused(append(bytes.Clone(hidden), 0), beside)
		refused(hidden[:size-1], beside)
		refused(nil, append(bytes.Clone(beside), hidden...))
		refused(append(bytes.Clone(beside), hidden...), nil)
		refused(beside, hidden)
		wantNoOpen(t, key, nonce, sealed[1:], beside, api.ErrTag)
		wantNoOpen(t, key, nonce, append(bytes.Clone(sealed), 0), beside, api.ErrTag)
	}
}

// P6.1: each byte of plain changes its own byte and the tag; each of beside the tag alone.
func TestSealHangsOnAll(t *testing.T) {
	key, nonce, plain, beside := someKey(54), someNonce(55), some(100, 56), some(50, 57)
	before, _ := aead.Seal(key, nonce, plain, beside)
	for i := range plain {
		b, e := aead.Seal(key, nonce, changed(plain, i, 0x41), beside)
		if e != api.OK || !bytes.Equal(b[:100], changed(before[:100], i, 0x41)) || bytes.Equal(b[100:], before[100:]) {
			t.Errorf("place %d of plain: %x, %d", i, b, e)
		}
	}
	for i := range beside {
		b, e := aead.Seal(key, nonce, plain, changed(beside, i, 0x41))
		if e != api.OK || !bytes.Equal(b[:100], before[:100]) || bytes.Equal(b[100:], before[100:]) {
			t.Errorf("place %d of beside: %x, %d", i, b, e)
		}
	}
}

// P6.3: what was sealed is opened by the same key and nonce with the same beside.
func TestSealedIsOpened(t *testing.T) {
	for _, size := range append([]int{api.MaxBytes - 1, api.MaxBytes}, sizes...) {
		for _, room := range []int{0, 1, 15, 16, 17, 63, 64, 65, 1200} {
			key, nonce := someKey(int64(size)), someNonce(int64(room))
			plain, beside := some(size, 60), some(room, 61)
			sealed, e := aead.Seal(key, nonce, plain, beside)
			if e != api.OK {
				t.Errorf("%d bytes, %d beside: %d", size, room, e)
			}
			wantOpen(t, key, nonce, sealed, beside, plain)
			if size <= 1200 {
				wantNoOpen(t, key, nonce, changed(sealed, len(sealed)-1-room%tagSize, 0x80), beside, api.ErrTag)
			}
		}
	}
}

// R4: no bytes, as nil and as an empty list with spare room, are the same.
func TestOfNone(t *testing.T) {
	key, nonce := someKey(62), someNonce(63)
	spare := []byte{1, 2, 3}[:0]
	want := plainSeal(key, nonce, nil, nil)
	for _, plain := range [][]byte{nil, {}, spare} {
		for _, beside := range [][]byte{nil, {}, spare} {
			wantSeal(t, key, nonce, plain, beside, want)
			wantOpen(t, key, nonce, want, beside, nil)
		}
	}
	wantNoSeal(t, spare, nonce, nil, nil, api.ErrArg)
	wantNoOpen(t, key, spare, nil, nil, api.ErrArg)
	wantNoOpen(t, key, nonce, spare, nil, api.ErrShort)
}

// R4: what is handed in stays as it was, the spare room behind it too; with errors as well.
func TestHandedInStays(t *testing.T) {
	const room = 100
	for _, c := range []struct{ key, nonce, size, beside int }{
		{32, 12, 0, 0}, {32, 12, 1, 1}, {32, 12, 15, 17}, {32, 12, 16, 16}, {32, 12, 17, 15}, {32, 12, 100, 33},
		{32, 12, api.MaxBytes, 5}, {32, 12, 5, api.MaxBytes}, {32, 12, api.MaxBytes + 1, 5}, {32, 12, 5, api.MaxBytes + 1}, {31, 12, 5, 5}, {32, 13, 5, 5},
	} {
		parts := [][]byte{some(c.key+room, 70), some(c.nonce+room, 71), some(c.size+room, 72), some(c.beside+room, 73)}
		key, nonce, plain, beside := parts[0][:c.key], parts[1][:c.nonce], parts[2][:c.size], parts[3][:c.beside]
		sealed, _ := aead.Seal(key, nonce, plain, beside)
		wide := append(bytes.Clone(sealed), some(room, 74)...)
		kept := bytes.Clone(wide)
		aead.Open(key, nonce, wide[:len(sealed)], beside)
		aead.Open(key, nonce, plain, beside)
		if !bytes.Equal(wide, kept) {
			t.Errorf("%v: what was opened, or the room behind it, was changed", c)
		}
		for i, size := range []int{c.key, c.nonce, c.size, c.beside} {
			if !bytes.Equal(parts[i], some(size+room, int64(70+i))) {
				t.Errorf("%v: argument %d, or the room behind it, was changed", c, i)
			}
		}
	}
}

// R4: an answer is memory of its own: changing it, its spare room too, changes no argument and no other answer.
func TestAnswersAreNewMemory(t *testing.T) {
	key, nonce, beside := someKey(80), someNonce(81), some(40, 82)
	for _, size := range []int{0, 1, 15, 16, 17, 63, 64, 65, 4096} {
		plain := some(size+100, 83)
		sealed := append(plainSeal(key, nonce, plain[:size], beside), some(100, 84)...)
		kept := bytes.Clone(sealed)
		seal := func() []byte {
			b, _ := aead.Seal(key, nonce, plain[:size], beside)
			return b
		}
		open := func() []byte {
			b, _ := aead.Open(key, nonce, sealed[:size+tagSize], beside)
			return b
		}
		checkApart(t, seal, kept[:size+tagSize])
		checkApart(t, open, plain[:size])
		if !bytes.Equal(plain, some(size+100, 83)) || !bytes.Equal(sealed, kept) || !bytes.Equal(beside, some(40, 82)) {
			t.Errorf("%d bytes: an answer shares memory with what was handed in", size)
		}
	}
}

// checkApart: two answers of a call share no memory, and the next one is the same again.
func checkApart(t *testing.T, call func() []byte, want []byte) {
	t.Helper()
	first, second := call(), call()
	second = second[:cap(second)]
	for i := range second {
		second[i] = 0xee
	}
	if !bytes.Equal(first, want) || !bytes.Equal(call(), want) {
		t.Errorf("%d bytes: an answer hangs on another one", len(want))
	}
}

// R4: one list may be handed in as several arguments.
func TestSameListTwice(t *testing.T) {
	b := some(200, 85)
	key, nonce := b[:32], b[10:22]
	want := plainSeal(bytes.Clone(key), bytes.Clone(nonce), bytes.Clone(b), bytes.Clone(b))
	wantSeal(t, key, nonce, b, b, want)
	wantOpen(t, key, nonce, want, b, b)
	tag := plainTag(key, nonce, want[:200], want)
	wantOpen(t, key, nonce, append(bytes.Clone(want[:200]), tag...), want, b)
}

// R4, R5: what is told hangs on the arguments as they are at the call, not on their room, on a call before or on one beside.
func TestHangsOnArgumentsAlone(t *testing.T) {
	key, nonce, plain, beside := someKey(90), someNonce(91), some(150, 92), some(30, 93)
	want := plainSeal(key, nonce, plain, beside)
	wantSeal(t, key, nonce, plain, beside, want)
	plain[70] ^= 1
	checkPlain(t, key, nonce, plain, beside)
	plain[70] ^= 1
	aead.Seal(key[:31], nonce, plain, beside)
	aead.Open(key, nonce, plain, beside)
	aead.Open(key, nonce, make([]byte, api.MaxBytes+17), beside)
	wide := append(make([]byte, 0, 4096), plain...)
	var group sync.WaitGroup
	for range 8 {
		group.Go(func() {
			wantSeal(t, key, nonce, wide, beside, want)
			wantOpen(t, key, nonce, want, beside, plain)
			wantNoOpen(t, key, nonce, want[1:], beside, api.ErrTag)
		})
	}
	group.Wait()
}
