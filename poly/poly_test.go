package poly_test

import (
	"bytes"
	"encoding/hex"
	"math/big"
	"math/rand"
	"strings"
	"sync"
	"testing"

	"mailcoach/api"
	"mailcoach/poly"
)

const maxTagged = 4 * api.MaxBytes

// sizes: none, few; around one part, two and more of them.
var sizes = []int{0, 1, 2, 7, 8, 14, 15, 16, 17, 18, 30, 31, 32, 33, 47, 48, 49, 63, 64, 65, 255, 256, 257, 1000, 1200, 4096, 4097}

// prime is 2^130 - 5.
var prime = minus(power(130), 5)

func unhex(t *testing.T, s string) []byte {
	t.Helper()
	b, err := hex.DecodeString(strings.Join(strings.Fields(s), ""))
	if err != nil {
		t.Fatal(err)
	}
	return b
}

// some bytes, the same ones for the same size and seed.
func some(size int, seed int64) []byte {
	b := make([]byte, size)
	rand.New(rand.NewSource(seed)).Read(b)
	return b
}

func someKey(seed int64) [32]byte { return [32]byte(some(32, seed)) }

// all: so many bytes that are all x.
func all(size int, x byte) []byte { return bytes.Repeat([]byte{x}, size) }

// keyOf: a key of both halves, each filled up by 00.
func keyOf(r, s []byte) (key [32]byte) {
	copy(key[:16], r)
	copy(key[16:], s)
	return key
}

func power(exponent uint) *big.Int { return new(big.Int).Lsh(big.NewInt(1), exponent) }

func minus(n *big.Int, x int64) *big.Int { return new(big.Int).Sub(n, big.NewInt(x)) }

// numberOf: the number of bytes, the lowest first.
func numberOf(b []byte) *big.Int {
	n := new(big.Int)
	for i := len(b) - 1; i >= 0; i-- {
		n.Lsh(n, 8)
		n.Or(n, big.NewInt(int64(b[i])))
	}
	return n
}

// bytesOf: sixteen bytes of what a number leaves by 2^128, the lowest first.
func bytesOf(n *big.Int) (b [16]byte) {
	new(big.Int).Mod(n, power(128)).FillBytes(b[:])
	for i := range 8 {
		b[i], b[15-i] = b[15-i], b[i]
	}
	return b
}

// clearMask: the bits that r keeps, as the RFC writes them.
func clearMask() *big.Int {
	mask, _ := new(big.Int).SetString("0ffffffc0ffffffc0ffffffc0fffffff", 16)
	return mask
}

// plainTag: the tag by numbers of any size, written out as the chapter writes it, to hold the program against.
func plainTag(key [32]byte, b []byte) [16]byte {
	r, s, a := numberOf(key[:16]), numberOf(key[16:]), new(big.Int)
	r.And(r, clearMask())
	for len(b) > 0 {
		part := append([]byte{}, b[:min(16, len(b))]...)
		b = b[len(part):]
		a.Add(a, numberOf(append(part, 1)))
		a.Mul(a, r)
		a.Mod(a, prime)
	}
	return bytesOf(a.Add(a, s))
}

func wantTag(t *testing.T, key [32]byte, b []byte, want [16]byte) {
	t.Helper()
	if x, e := poly.Tag(key, b); x != want || e != api.OK {
		t.Errorf("Tag(%x, %d bytes %x..) = %x, %d, not %x", key, len(b), b[:min(len(b), 80)], x, e, want)
	}
}

func wantNoTag(t *testing.T, key [32]byte, b []byte) {
	t.Helper()
	if x, e := poly.Tag(key, b); x != [16]byte{} || e != api.ErrLimit {
		t.Errorf("Tag(%x, %d bytes) = %x, %d", key, len(b), x, e)
	}
}

// checkPlain: the tag is what the chapter's words say, written out.
func checkPlain(t *testing.T, key [32]byte, b []byte) {
	t.Helper()
	wantTag(t, key, b, plainTag(key, b))
}

// edgeKeys: first halves that are 0, 1, 2; all bits; the bits alone that are cleared, and all but those; each byte alone.
func edgeKeys() (list [][]byte) {
	full, kept := all(16, 0xff), bytesOf(clearMask())
	gone := make([]byte, 16)
	for i := range gone {
		gone[i] = ^kept[i]
	}
	list = append(list, nil, []byte{1}, []byte{2}, []byte{3}, []byte{4}, []byte{5}, full, kept[:], gone)
	for i := range 16 {
		one := make([]byte, 16)
		one[i] = 0xff
		list = append(list, one)
	}
	return list
}

// P5.1: the chapter's examples, and those of RFC 8439 (A.3) that are not among them.
func TestTagExamples(t *testing.T) {
	ones := "ffffffff ffffffff ffffffff ffffffff"
	zeros := "00000000 00000000 00000000 00000000"
	ietf := `Any submission to the IETF intended by the Contributor for publication as all or part of an IETF Internet-Draft or RFC and any statement made within the context of an IETF activity is considered an "IETF Contribution". Such statements include oral statements in IETF sessions, as well as written and electronic communications made at any time or place, which are addressed to`
	wocky := "'Twas brillig, and the slithy toves\nDid gyre and gimble in the wabe:\nAll mimsy were the borogoves,\nAnd the mome raths outgrabe."
	for _, c := range []struct{ r, s, b, want string }{
		{"85d6be78 57556d33 7f4452fe 42d506a8", "0103808a fb0db2fd 4abff6af 4149f51b", hex.EncodeToString([]byte("Cryptographic Forum Research Group")), "a8061dc1 305136c6 c22b8baf 0c0127a9"},
		{"", "", hex.EncodeToString(some(64, 1)), zeros},
		{"85d6be78 57556d33 7f4452fe 42d506a8", "0103808a fb0db2fd 4abff6af 4149f51b", "", "0103808a fb0db2fd 4abff6af 4149f51b"},
		{"02", "", ones, "03000000 00000000 00000000 00000000"},
		{"02", ones, "02000000 00000000 00000000 00000000", "03000000 00000000 00000000 00000000"},
		{"01", "", ones + "f0ffffff ffffffff ffffffff ffffffff 11000000 00000000 00000000 00000000", "05000000 00000000 00000000 00000000"},
		{"01", "", ones + "fbfefefe fefefefe fefefefe fefefefe 01010101 01010101 01010101 01010101", zeros},
		{"02", "", "fdffffff ffffffff ffffffff ffffffff", "faffffff ffffffff ffffffff ffffffff"},
		{"", "36e5f6b5 c5e06070 f0efca96 227a863e", hex.EncodeToString([]byte(ietf)), "36e5f6b5 c5e06070 f0efca96 227a863e"},
		{"36e5f6b5 c5e06070 f0efca96 227a863e", "", hex.EncodeToString([]byte(ietf)), "f3477e7c d95417af 89a6b879 4c310cf0"},
		{"1c9240a5 eb55d38a f3338886 04f6b5f0", "473917c1 402b8009 9dca5cbc 207075c0", hex.EncodeToString([]byte(wocky)), "4541669a 7eaaee61 e708dc7c bcc5eb62"},
		{"01000000 00000000 04000000 00000000", "", "e33594d7 505e43b9 00000000 00000000 3394d750 5e4379cd 01000000 00000000 00000000 00000000 00000000 00000000 01000000 00000000 00000000 00000000", "14000000 00000000 55000000 00000000"},
		{"01000000 00000000 04000000 00000000", "", "e33594d7 505e43b9 00000000 00000000 3394d750 5e4379cd 01000000 00000000 00000000 00000000 00000000 00000000", "13000000 00000000 00000000 00000000"},
	} {
		wantTag(t, keyOf(unhex(t, c.r), unhex(t, c.s)), unhex(t, c.b), [16]byte(unhex(t, c.want)))
	}
}

// P5.1: bytes of all sizes around the edges, keys of all kinds: what the chapter's words say, written out.
func TestTagAgainstPlain(t *testing.T) {
	for _, size := range sizes {
		for seed := range int64(20) {
			checkPlain(t, someKey(seed), some(size, seed+100))
		}
		checkPlain(t, keyOf(all(16, 0xff), all(16, 0xff)), all(size, 0xff))
		checkPlain(t, keyOf(all(16, 0xff), nil), all(size, 0))
	}
	for size := range 200 {
		checkPlain(t, someKey(int64(size)), some(size, int64(size)+1))
	}
}

// P5.1: first halves of a key at the edges, the cleared bits among them, over bytes of all kinds.
func TestTagByEdgeKeys(t *testing.T) {
	for _, r := range edgeKeys() {
		for _, size := range []int{0, 1, 15, 16, 17, 31, 32, 33, 64, 65} {
			for _, b := range [][]byte{all(size, 0), all(size, 1), all(size, 0xff), some(size, 3)} {
				checkPlain(t, keyOf(r, nil), b)
				checkPlain(t, keyOf(r, all(16, 0xff)), b)
				checkPlain(t, keyOf(r, some(16, 4)), b)
			}
		}
	}
}

// P5.1: each of the first half's bits counts, but for those that are cleared: these change no tag.
func TestTagClearsBits(t *testing.T) {
	kept, b := clearMask(), some(40, 5)
	for _, key := range [][32]byte{{}, someKey(6), keyOf(all(16, 0xff), nil)} {
		before, _ := poly.Tag(key, b)
		for bit := range 128 {
			other := key
			other[bit/8] ^= 1 << (bit % 8)
			x, e := poly.Tag(other, b)
			if counts := kept.Bit(bit) == 1; e != api.OK || (x != before) != counts {
				t.Errorf("the key %x, bit %d: %x, %d beside %x", key, bit, x, e, before)
			}
		}
	}
}

// P5.1: a part of less than sixteen bytes is not that part filled up: each byte and each size counts, in its place.
func TestTagHangsOnAll(t *testing.T) {
	key := someKey(7)
	seen := map[[16]byte]bool{}
	tell := func(b []byte) {
		x, _ := poly.Tag(key, b)
		seen[x] = true
	}
	for size := range 70 {
		tell(make([]byte, size))
	}
	for i := range 69 {
		b := make([]byte, 69)
		b[i] = 1
		tell(b)
		b[i] = 0x80
		tell(b)
	}
	if len(seen) != 70+2*69 {
		t.Errorf("%d different tags", len(seen))
	}
}

// partsWithSum: whole parts whose numbers have that sum: with r 1 it is a, but for what is wrapped round. Each part's number is 2^128 and more, so that there are none for a smaller sum.
func partsWithSum(sum *big.Int) (b []byte) {
	whole, rest := new(big.Int).DivMod(sum, power(128), new(big.Int))
	for i := range whole.Int64() {
		part := [16]byte{}
		if i == 0 {
			part = bytesOf(rest)
		}
		b = append(b, part[:]...)
	}
	return b
}

// P5.1: numbers at 2^130 - 5 and around it, and so at twice and three times it; at 2^128 and around it; at each word's edges.
func TestTagAroundPrime(t *testing.T) {
	for _, middle := range []*big.Int{big.NewInt(12), power(26), power(32), power(52), power(64), power(78), power(104), power(127), power(128), power(129), prime, power(130)} {
		for x := int64(-12); x <= 12; x++ {
			sum := minus(middle, x)
			want := bytesOf(new(big.Int).Mod(sum, prime))
			for range 4 {
				if b := partsWithSum(sum); len(b) > 0 {
					wantTag(t, keyOf([]byte{1}, nil), b, want)
					for _, r := range edgeKeys() {
						checkPlain(t, keyOf(r, all(16, 0xff)), b)
					}
				}
				sum.Add(sum, prime)
			}
		}
	}
}

// P5.1: the same around 2^130 - 5, where the numbers come from a part times r 2, 4 and others: the part's number times r is at it.
func TestTagOfProductsAroundPrime(t *testing.T) {
	for r := byte(1); r < 64; r++ {
		for times := range int64(r) {
			n := new(big.Int).Mul(prime, big.NewInt(times+1))
			n.Div(n, big.NewInt(int64(r)))
			for x := int64(-3); x <= 3; x++ {
				if b := partsWithSum(minus(n, x)); len(b) > 0 {
					checkPlain(t, keyOf([]byte{r}, nil), b)
				}
			}
		}
	}
}

// P5.1: sums of a and s at 2^128 and around it: what is left of them by 2^128.
func TestTagAroundSum(t *testing.T) {
	for _, r := range [][]byte{{1}, {2}, all(16, 0xff), some(16, 8)} {
		for _, b := range [][]byte{{}, {1}, all(15, 0xff), all(16, 0xff), all(17, 0xff), all(32, 0), some(16, 9), some(100, 10), partsWithSum(minus(prime, 1)), partsWithSum(prime), partsWithSum(power(128)), partsWithSum(power(129))} {
			a := numberOf(tagged(t, keyOf(r, nil), b))
			for x := int64(-6); x <= 6; x++ {
				s := bytesOf(minus(new(big.Int).Sub(power(128), a), x))
				want := bytesOf(minus(power(128), x))
				wantTag(t, keyOf(r, s[:]), b, want)
			}
		}
	}
}

func tagged(t *testing.T, key [32]byte, b []byte) []byte {
	t.Helper()
	x, e := poly.Tag(key, b)
	if e != api.OK {
		t.Fatalf("%d bytes: %d", len(b), e)
	}
	return x[:]
}

// P5.1: carries go through all words: numbers whose words are full, and s that tips them over.
func TestTagCarries(t *testing.T) {
	for bit := range uint(128) {
		s := bytesOf(power(bit))
		full := bytesOf(minus(power(128), 1))
		for _, r := range [][]byte{{1}, {2}, {4}} {
			checkPlain(t, keyOf(r, s[:]), full[:])
			low := bytesOf(minus(power(bit), 1))
			checkPlain(t, keyOf(r, []byte{1}), low[:])
			checkPlain(t, keyOf(r, low[:]), append(low[:], full[:]...))
			one := bytesOf(power(bit))
			checkPlain(t, keyOf(one[:], full[:]), append(low[:], full[:]...))
		}
	}
}

// P5.1: up to 4 times MaxBytes bytes are taken.
func TestTagUpToLimit(t *testing.T) {
	b := some(maxTagged, 11)
	for _, size := range []int{api.MaxBytes, api.MaxBytes + 1, 2*api.MaxBytes + 7, maxTagged - 17, maxTagged - 16, maxTagged - 1, maxTagged} {
		checkPlain(t, someKey(12), b[:size])
	}
	checkPlain(t, keyOf(all(16, 0xff), all(16, 0xff)), all(maxTagged, 0xff))
	wantTag(t, keyOf(nil, []byte{9}), b, [16]byte{9})
}

// P5.1, R2: more than 4 times MaxBytes bytes answer ErrLimit, and nothing beside it, by whatever key.
func TestTagAboveLimit(t *testing.T) {
	b := make([]byte, 3*maxTagged)
	for _, size := range []int{maxTagged + 1, maxTagged + 15, maxTagged + 16, maxTagged + 17, 2 * maxTagged, 3 * maxTagged} {
		for _, key := range [][32]byte{{}, someKey(13), keyOf(all(16, 0xff), all(16, 0xff))} {
			wantNoTag(t, key, b[:size])
		}
	}
}

// P5.1, R4: of no bytes, as nil and as an empty list with spare room, the tag is the key's last sixteen bytes.
func TestTagOfNone(t *testing.T) {
	spare := []byte{1, 2, 3}[:0]
	for seed := range int64(10) {
		key := someKey(seed)
		for _, b := range [][]byte{nil, {}, spare} {
			wantTag(t, key, b, [16]byte(key[16:]))
		}
	}
}

// P5.2: the tag of one part is its number times r, what is left by 2^130 - 5, and s.
func TestTagOfOnePart(t *testing.T) {
	for size := 1; size <= 16; size++ {
		for seed := range int64(30) {
			key, b := someKey(seed), some(size, seed+200)
			n := numberOf(append(bytes.Clone(b), 1))
			r := numberOf(key[:16])
			n.Mul(n, r.And(r, clearMask())).Mod(n, prime)
			wantTag(t, key, b, bytesOf(n.Add(n, numberOf(key[16:]))))
		}
	}
}

// P5.2: with r 0, of a key whose bits are 0 or are cleared, each tag is s.
func TestTagWithoutR(t *testing.T) {
	kept := bytesOf(clearMask())
	gone := make([]byte, 16)
	for i := range gone {
		gone[i] = ^kept[i]
	}
	for _, size := range append([]int{api.MaxBytes}, sizes...) {
		for _, s := range [][]byte{all(16, 0), all(16, 0xff), some(16, 14)} {
			for _, b := range [][]byte{all(size, 0), all(size, 0xff), some(size, 15)} {
				wantTag(t, keyOf(nil, s), b, [16]byte(s))
				wantTag(t, keyOf(gone, s), b, [16]byte(s))
			}
		}
	}
}

// P5.2: if s is another one, the tag is as much another one, of 2^128.
func TestTagGoesWithS(t *testing.T) {
	for _, size := range sizes {
		key, b := someKey(int64(size)), some(size, 16)
		tag, s := numberOf(tagged(t, key, b)), numberOf(key[16:])
		others := [][]byte{all(16, 0), all(16, 0xff), {1}, some(16, 17), some(16, 18)}
		for bit := range uint(128) {
			other := bytesOf(new(big.Int).Add(s, power(bit)))
			others = append(others, other[:])
		}
		for _, other := range others {
			more := new(big.Int).Sub(numberOf(other), s)
			wantTag(t, keyOf(key[:16], other), b, bytesOf(more.Add(more, tag)))
		}
	}
}

// R4: what is handed in stays as it was, the spare room behind it too; with errors as well.
func TestHandedInStays(t *testing.T) {
	const room = 100
	for _, size := range []int{0, 1, 15, 16, 17, 31, 32, 1000, maxTagged, maxTagged + 1} {
		b, key := some(size+room, 20), keyOf(all(16, 0xff), all(16, 0xff))
		poly.Tag(key, b[:size])
		if !bytes.Equal(b, some(size+room, 20)) {
			t.Errorf("%d bytes, or the room behind them, were changed", size)
		}
		if key != keyOf(all(16, 0xff), all(16, 0xff)) {
			t.Errorf("the key was changed: %x", key)
		}
	}
}

// R4, R5: what is told hangs on the arguments as they are at the call, not on their room, on a call before or on one beside.
func TestHangsOnArgumentsAlone(t *testing.T) {
	key, b := someKey(30), some(150, 31)
	want := plainTag(key, b)
	wantTag(t, key, b, want)
	b[70] ^= 1
	checkPlain(t, key, b)
	b[70] ^= 1
	poly.Tag(someKey(32), b[:77])
	poly.Tag(key, make([]byte, maxTagged+1))
	wide := append(bytes.Clone(b), all(100, 0xff)...)
	var group sync.WaitGroup
	for range 8 {
		group.Go(func() {
			wantTag(t, key, b, want)
			wantTag(t, key, wide[:150], want)
		})
	}
	group.Wait()
}
