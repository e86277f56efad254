package chacha_test

import (
	"bytes"
	"encoding/binary"
	"encoding/hex"
	"math"
	"math/bits"
	"math/rand"
	"strings"
	"sync"
	"testing"

	"mailcoach/api"
	"mailcoach/chacha"
)

// sizes: none, few; around one block, two and more of them.
var sizes = []int{0, 1, 2, 31, 32, 33, 63, 64, 65, 66, 127, 128, 129, 191, 192, 193, 1000, 4096, 16385}

// edgeCounts: the first counts and the last ones; around each byte of a count.
var edgeCounts = []uint32{0, 1, 2, 0xff, 0x100, 0xffff, 0x10000, 0xffffff, 0x1000000, 0x01020304, 1<<31 - 1, 1 << 31, math.MaxUint32 - 2, math.MaxUint32 - 1, math.MaxUint32}

func unhex(t *testing.T, s string) []byte {
	t.Helper()
	b, err := hex.DecodeString(strings.Join(strings.Fields(s), ""))
	if err != nil {
		t.Fatal(err)
	}
	return b
}

// some bytes, the same ones for the same size and seed.
func some(size int, seed int64) []byte {
	b := make([]byte, size)
	rand.New(rand.NewSource(seed)).Read(b)
	return b
}

func someKey(seed int64) [32]byte { return [32]byte(some(32, seed)) }

func someNonce(seed int64) [12]byte { return [12]byte(some(12, seed)) }

// up: the bytes 00 01 .. 1f.
func up() (key [32]byte) {
	for i := range key {
		key[i] = byte(i)
	}
	return key
}

// plainBlock: a block, written out as the RFC writes it, to hold the program against.
func plainBlock(key [32]byte, count uint32, nonce [12]byte) [64]byte {
	words := func(b []byte) (list []uint32) {
		for ; len(b) > 0; b = b[4:] {
			list = append(list, binary.LittleEndian.Uint32(b))
		}
		return list
	}
	start := words([]byte("expand 32-byte k"))
	start = append(start, words(key[:])...)
	start = append(start, count)
	start = append(start, words(nonce[:])...)
	s := append([]uint32(nil), start...)
	quarter := func(a, b, c, d int) {
		s[a] += s[b]
		s[d] = bits.RotateLeft32(s[d]^s[a], 16)
		s[c] += s[d]
		s[b] = bits.RotateLeft32(s[b]^s[c], 12)
		s[a] += s[b]
		s[d] = bits.RotateLeft32(s[d]^s[a], 8)
		s[c] += s[d]
		s[b] = bits.RotateLeft32(s[b]^s[c], 7)
	}
	for i := 0; i < 20; i += 2 {
		for column := 0; column < 4; column++ {
			quarter(column, 4+column, 8+column, 12+column)
		}
		for column := 0; column < 4; column++ {
			quarter(column, 4+(column+1)%4, 8+(column+2)%4, 12+(column+3)%4)
		}
	}
	var b [64]byte
	for i := range s {
		binary.LittleEndian.PutUint32(b[4*i:], s[i]+start[i])
	}
	return b
}

// plainXor: bytes against the stream, block by block.
func plainXor(key [32]byte, count uint32, nonce [12]byte, b []byte) []byte {
	out := append([]byte{}, b...)
	for i := range out {
		if i%64 == 0 {
			block := plainBlock(key, count+uint32(i/64), nonce)
			for j := i; j < min(i+64, len(out)); j++ {
				out[j] ^= block[j-i]
			}
		}
	}
	return out
}

func wantBlock(t *testing.T, key [32]byte, count uint32, nonce [12]byte, want []byte) {
	t.Helper()
	if b := chacha.Block(key, count, nonce); !bytes.Equal(b[:], want) {
		t.Errorf("Block(%x, %d, %x) = %x, not %x", key, count, nonce, b, want)
	}
}

func wantXor(t *testing.T, key [32]byte, count uint32, nonce [12]byte, b, want []byte) {
	t.Helper()
	x, e := chacha.Xor(key, count, nonce, b)
	if e != api.OK || len(x) != len(b) {
		t.Errorf("Xor of %d bytes from the count %d: %d bytes, %d", len(b), count, len(x), e)
	} else if !bytes.Equal(x, want) {
		t.Errorf("Xor of %d bytes from the count %d: %x.., not %x..", len(b), count, x[:min(len(x), 200)], want[:min(len(want), 200)])
	}
}

func wantNoXor(t *testing.T, count uint32, b []byte) {
	t.Helper()
	if x, e := chacha.Xor(up(), count, someNonce(1), b); len(x) != 0 || e != api.ErrLimit {
		t.Errorf("Xor of %d bytes from the count %d: %d bytes, %d", len(b), count, len(x), e)
	}
}

// P4.1: the chapter's examples, and the others of RFC 8439 (A.1).
func TestBlockExamples(t *testing.T) {
	zero := [32]byte{}
	for _, c := range []struct {
		key   [32]byte
		count uint32
		nonce [12]byte
		want  string
	}{
		{up(), 1, [12]byte{3: 9, 7: 0x4a}, "10f1e7e4 d13b5915 500fdd1f a32071c4 c7d1f4c7 33c06803 0422aa9a c3d46c4e d2826446 079faa09 14c2d705 d98b02a2 b5129cd1 de164eb9 cbd083e8 a2503c4e"},
		{zero, 0, [12]byte{}, "76b8e0ad a0f13d90 405d6ae5 5386bd28 bdd219b8 a08ded1a a836efcc 8b770dc7 da41597c 5157488d 7724e03f b8d84a37 6a43b8f4 1518a11c c387b669 b2ee6586"},
		{zero, 1, [12]byte{}, "9f07e7be 5551387a 98ba977c 732d080d cb0f29a0 48e36569 12c6533e 32ee7aed 29b72176 9ce64e43 d57133b0 74d839d5 31ed1f28 510afb45 ace10a1f 4b794d6f"},
		{[32]byte{31: 1}, 1, [12]byte{}, "3aeb5224 ecf84992 9b9d828d b1ced4dd 832025e8 018b8160 b82284f3 c949aa5a 8eca00bb b4a73bda d192b5c4 2f73f2fd 4e273644 c8b36125 a64addeb 006c13a0"},
		{[32]byte{1: 0xff}, 2, [12]byte{}, "72d54dfb f12ec44b 362692df 94137f32 8fea8da7 3990265e c1bbbea1 ae9af0ca 13b25aa2 6cb4a648 cb9b9d1b e65b2c09 24a66c54 d545ec1b 7374f487 2e99f096"},
		{zero, 0, [12]byte{11: 2}, "c2c64d37 8cd53637 4ae204b9 ef933fcd 1a8b2288 b3dfa496 72ab765b 54ee27c7 8a970e0e 955c14f3 a88e741b 97c286f7 5f8fc299 e8148362 fa198a39 531bed6d"},
	} {
		wantBlock(t, c.key, c.count, c.nonce, unhex(t, c.want))
	}
}

// P4.1: keys, counts and nonces of all kinds: what the RFC's words say, written out.
func TestBlockAgainstPlain(t *testing.T) {
	check := func(key [32]byte, count uint32, nonce [12]byte) {
		t.Helper()
		want := plainBlock(key, count, nonce)
		wantBlock(t, key, count, nonce, want[:])
	}
	full := [32]byte(bytes.Repeat([]byte{0xff}, 32))
	for _, count := range edgeCounts {
		check(up(), count, someNonce(2))
		check(full, count, [12]byte(full[:12]))
		check([32]byte{}, count, [12]byte{})
	}
	for seed := range int64(200) {
		check(someKey(seed), rand.New(rand.NewSource(seed)).Uint32(), someNonce(seed+1))
	}
	for i := range 256 {
		key, nonce := [32]byte{}, [12]byte{}
		key[i/8] = 1 << (i % 8)
		check(key, 0, nonce)
		nonce[i/8%12] = 1 << (i % 8)
		check([32]byte{}, 1, nonce)
	}
}

// P4.1: a block hangs on each byte of the key, each bit of the count, each byte of the nonce.
func TestBlockHangsOnAll(t *testing.T) {
	seen := map[[64]byte]bool{}
	tell := func(key [32]byte, count uint32, nonce [12]byte) {
		seen[chacha.Block(key, count, nonce)] = true
	}
	tell(up(), 0, [12]byte{})
	for i := range 32 {
		key := up()
		key[i] ^= 0x80
		tell(key, 0, [12]byte{})
		tell(up(), 1<<i, [12]byte{})
	}
	for i := range 12 {
		nonce := [12]byte{}
		nonce[i] = 1
		tell(up(), 0, nonce)
	}
	if len(seen) != 1+32+32+12 {
		t.Errorf("%d different blocks", len(seen))
	}
}

// P4.2: the chapter's examples, and that of RFC 8439, 2.4.2.
func TestXorExamples(t *testing.T) {
	zero, none := [32]byte{}, [12]byte{}
	wantXor(t, zero, 0, none, make([]byte, 4), unhex(t, "76b8e0ad"))
	wantXor(t, zero, 0, none, nil, nil)
	block := chacha.Block(zero, math.MaxUint32, none)
	wantXor(t, zero, math.MaxUint32, none, make([]byte, 64), block[:])
	wantNoXor(t, math.MaxUint32, make([]byte, 65))
	plain := "Ladies and Gentlemen of the class of '99: If I could offer you only one tip for the future, sunscreen would be it."
	wantXor(t, up(), 1, [12]byte{7: 0x4a}, []byte(plain), unhex(t, `
		6e2e359a 2568f980 41ba0728 dd0d6981 e97e7aec 1d4360c2 0a27afcc fd9fae0b
		f91b65c5 524733ab 8f593dab cd62b357 1639d624 e65152ab 8f530c35 9f0861d8
		07ca0dbf 500d6a61 56a38e08 8a22b65e 52bc514d 16ccf806 818ce91a b7793736
		5af90bbf 74a35be6 b40b8eed f2785e42 874d`))
}

// P4.2: bytes of all sizes around the edges, from many counts: each against the stream's at its place.
func TestXorAgainstPlain(t *testing.T) {
	for _, size := range sizes {
		key, nonce, b := someKey(int64(size)), someNonce(int64(size)+1), some(size, int64(size)+2)
		for _, count := range []uint32{0, 1, 0xff, 0xffff, 0xfffffe, 1<<31 - 1, math.MaxUint32 - 256} {
			wantXor(t, key, count, nonce, b, plainXor(key, count, nonce, b))
		}
	}
	for size := range 300 {
		b := some(size, 5)
		wantXor(t, up(), 7, someNonce(6), b, plainXor(up(), 7, someNonce(6), b))
	}
}

// P4.2: bytes 00 tell the stream itself: the block of the count, that of one more, and so on.
func TestXorOfZerosIsTheStream(t *testing.T) {
	key, nonce := someKey(10), someNonce(11)
	for _, count := range []uint32{0, 1, 0xfe, math.MaxUint32 - 4} {
		var want []byte
		for i := range uint32(5) {
			block := chacha.Block(key, count+i, nonce)
			want = append(want, block[:]...)
		}
		for size := range len(want) + 1 {
			wantXor(t, key, count, nonce, make([]byte, size), want[:size])
		}
	}
}

// P4.2, R4: no bytes, as nil and as empty lists with spare room, are none from every count: the last one too.
func TestXorOfNone(t *testing.T) {
	spare := []byte{1, 2, 3}[:0]
	for _, count := range edgeCounts {
		for _, b := range [][]byte{nil, {}, spare} {
			wantXor(t, up(), count, someNonce(3), b, nil)
		}
	}
}

// P4.2: MaxBytes bytes are taken, from the first counts and from the last one that leaves counts enough.
func TestXorUpToMaxBytes(t *testing.T) {
	key, nonce, all := someKey(20), someNonce(21), some(api.MaxBytes, 22)
	const blocks = api.MaxBytes / 64
	for _, c := range []struct {
		count uint32
		size  int
	}{
		{0, api.MaxBytes}, {1, api.MaxBytes}, {1, api.MaxBytes - 1}, {0, api.MaxBytes - 63}, {0, api.MaxBytes - 64},
		{math.MaxUint32 - blocks, api.MaxBytes}, {math.MaxUint32 - blocks + 1, api.MaxBytes}, {math.MaxUint32 - blocks + 2, api.MaxBytes - 64},
	} {
		b := all[:c.size]
		wantXor(t, key, c.count, nonce, b, plainXor(key, c.count, nonce, b))
	}
}

// P4.2, R2: more than MaxBytes bytes answer ErrLimit, and nothing beside it, from whatever count.
func TestXorAboveMaxBytes(t *testing.T) {
	all := make([]byte, 3*api.MaxBytes)
	for _, size := range []int{api.MaxBytes + 1, api.MaxBytes + 63, api.MaxBytes + 64, api.MaxBytes + 65, 2 * api.MaxBytes, 3 * api.MaxBytes} {
		for _, count := range edgeCounts {
			wantNoXor(t, count, all[:size])
		}
	}
}

// P4.2: from each of the last counts, as many blocks are taken as counts are left, the last block any; not one byte more.
func TestXorUpToLastCount(t *testing.T) {
	key, nonce := someKey(30), someNonce(31)
	for left := 1; left <= 20; left++ {
		count := uint32(1<<32 - left)
		for _, size := range []int{64*left - 64, 64*left - 63, 64*left - 1, 64 * left} {
			b := some(size, int64(size))
			wantXor(t, key, count, nonce, b, plainXor(key, count, nonce, b))
		}
		for _, size := range []int{64*left + 1, 64*left + 2, 64*left + 63, 64*left + 64, 64*left + 65, 1 << 16, api.MaxBytes} {
			wantNoXor(t, count, make([]byte, size))
		}
	}
	const blocks = api.MaxBytes / 64
	wantNoXor(t, math.MaxUint32-blocks+2, make([]byte, api.MaxBytes))
	wantNoXor(t, math.MaxUint32-blocks+2, make([]byte, api.MaxBytes-63))
	wantNoXor(t, math.MaxUint32, make([]byte, 65))
	wantNoXor(t, math.MaxUint32-1, make([]byte, 129))
}

// P4.3: done twice, bytes are what they were.
func TestDoneTwice(t *testing.T) {
	for _, size := range append([]int{api.MaxBytes}, sizes...) {
		key, nonce, b := someKey(40), someNonce(41), some(size, 42)
		for _, count := range []uint32{0, 1, uint32(1<<32 - (size+63)/64 - 1)} {
			once, e := chacha.Xor(key, count, nonce, b)
			if e != api.OK || size > 8 && bytes.Equal(once, b) {
				t.Errorf("%d bytes from the count %d: %d, as they were", size, count, e)
			}
			wantXor(t, key, count, nonce, once, b)
		}
	}
}

// P4.3: bytes of 64 times n, and what is behind them from a count that is n more, are apart what they are at once.
func TestDoneApart(t *testing.T) {
	key, nonce := someKey(50), someNonce(51)
	for _, size := range []int{0, 1, 63, 64, 65, 128, 200, 640, 641} {
		b := some(size, 52)
		for _, count := range []uint32{0, 1, 0xfd, uint32(1<<32 - (size+63)/64 - 1)} {
			whole, _ := chacha.Xor(key, count, nonce, b)
			for n := 0; 64*n <= size; n++ {
				wantXor(t, key, count, nonce, b[:64*n], whole[:64*n])
				wantXor(t, key, count+uint32(n), nonce, b[64*n:], whole[64*n:])
			}
		}
	}
	b := some(api.MaxBytes, 53)
	whole, _ := chacha.Xor(key, 9, nonce, b)
	for _, n := range []int{1, 8192, api.MaxBytes/64 - 1} {
		wantXor(t, key, 9, nonce, b[:64*n], whole[:64*n])
		wantXor(t, key, 9+uint32(n), nonce, b[64*n:], whole[64*n:])
	}
}

// R4: what is handed in stays as it was, the spare room behind it too; with errors as well.
func TestHandedInStays(t *testing.T) {
	const room = 200
	for _, size := range []int{0, 1, 63, 64, 65, 1000, api.MaxBytes, api.MaxBytes + 1} {
		b := some(size+room, 60)
		for _, count := range []uint32{0, 1, math.MaxUint32} {
			chacha.Xor(up(), count, someNonce(61), b[:size])
		}
		if !bytes.Equal(b, some(size+room, 60)) {
			t.Errorf("%d bytes, or the room behind them, were changed", size)
		}
	}
}

// R4: an answer is memory of its own: changing it, its spare room too, changes no argument and no other answer.
func TestAnswersAreNewMemory(t *testing.T) {
	for _, size := range []int{0, 1, 63, 64, 65, 200, 4096} {
		b := some(size+100, 70)
		call := func() []byte {
			x, _ := chacha.Xor(up(), 3, someNonce(71), b[:size])
			return x
		}
		first, second := call(), call()
		kept := bytes.Clone(first)
		second = second[:cap(second)]
		for i := range second {
			second[i] = 0xee
		}
		if !bytes.Equal(first, kept) {
			t.Errorf("%d bytes: two answers share memory", size)
		}
		if !bytes.Equal(call(), kept) {
			t.Errorf("%d bytes: an answer hangs on one before", size)
		}
		if !bytes.Equal(b, some(size+100, 70)) {
			t.Errorf("%d bytes: an answer shares memory with what was handed in", size)
		}
	}
}

// R4, R5: what is told hangs on the arguments as they are at the call, not on their room, on a call before or on one beside.
func TestHangsOnArgumentsAlone(t *testing.T) {
	key, nonce, b := someKey(80), someNonce(81), some(150, 82)
	block := plainBlock(key, 4, nonce)
	want := plainXor(key, 4, nonce, b)
	wantXor(t, key, 4, nonce, b, want)
	b[70] ^= 1
	wantXor(t, key, 4, nonce, b, plainXor(key, 4, nonce, b))
	b[70] ^= 1
	chacha.Xor(key, math.MaxUint32, nonce, b)
	chacha.Xor(key, 4, nonce, make([]byte, api.MaxBytes+1))
	wide := append(make([]byte, 0, 4096), b...)
	var group sync.WaitGroup
	for range 8 {
		group.Go(func() {
			wantXor(t, key, 4, nonce, wide, want)
			wantBlock(t, key, 4, nonce, block[:])
		})
	}
	group.Wait()
}
