package packet_test

import (
	"bytes"
	"math"
	"math/rand"
	"testing"

	"mailcoach/api"
	"mailcoach/packet"
)

// tampered: a packet with another last byte, so that its tag is another one.
func tampered(b []byte) []byte {
	b = bytes.Clone(b)
	b[len(b)-1] ^= 1
	return b
}

// longWith: a packet whose header is long; for 3 bytes, from 2; the number 0 and the length told in so many bytes.
func longWith(t *testing.T, zeroSize, lengthSize, n int, payload []byte, k api.Keys) []byte {
	t.Helper()
	rest := uint64(n + len(payload) + 16)
	return forge(0xc0, between([]byte{7, 8, 9}, []byte{5, 6}, wide(t, 0, zeroSize), wide(t, rest, lengthSize)), 41, n, payload, k)
}

// longWanted: what is opened of it.
func longWanted(b, payload []byte) result {
	return result{api.Header{Long: true, To: []byte{7, 8, 9}, From: []byte{5, 6}, Number: 41}, payload, len(b), api.OK}
}

// sizesOfFew: how many bytes a number of few bytes may have.
var sizesOfFew = []int{1, 2, 4, 8}

// P13.3: to that is not 0 to 20, keys that may not be, a number above MaxNumber that came: ErrArg, ahead of all else.
func TestOpenWrongArguments(t *testing.T) {
	k := someKeys(1)
	whole := longWith(t, 1, 2, 2, up(9), k)
	for _, b := range [][]byte{nil, {}, {0}, {0x80}, {0xf0}, {0xc0}, {0x40}, whole, whole[:9], tampered(whole), append([]byte{0x40}, some(60, 2)...), make([]byte, api.MaxBytes+100)} {
		for _, to := range []int{math.MinInt, math.MinInt + 1, -256, -1, 21, 22, 255, 256, 256 + 3, 1<<32 + 3, math.MaxInt - 1, math.MaxInt} {
			notOpened(t, b, to, k, 40, api.ErrArg)
		}
		for _, wrong := range wrongKeys() {
			notOpened(t, b, 3, wrong, 40, api.ErrArg)
			notOpened(t, b, 0, wrong, -1, api.ErrArg)
		}
		for _, came := range []int64{api.MaxNumber + 1, api.MaxNumber + 2, math.MaxInt64 - 1, math.MaxInt64} {
			notOpened(t, b, 3, k, came, api.ErrArg)
			notOpened(t, b, 0, k, came, api.ErrArg)
		}
	}
}

// P13.3: no byte: ErrShort, whatever may be beside it.
func TestOpenNothing(t *testing.T) {
	for to := range 21 {
		for _, came := range []int64{math.MinInt64, -1, 0, api.MaxNumber} {
			notOpened(t, nil, to, someKeys(3), came, api.ErrShort)
			notOpened(t, []byte{}, to, someKeys(3), came, api.ErrShort)
			notOpened(t, some(50, 4)[:0], to, someKeys(3), came, api.ErrShort)
		}
	}
}

// P13.3: the first byte, all of them: ErrForm without the bit 40, and with 80 and one of 30; both ahead of ErrShort for what is behind.
func TestOpenFirstByte(t *testing.T) {
	k := someKeys(5)
	whole := longWith(t, 1, 2, 2, up(9), k)
	for first := range 256 {
		want := api.ErrShort
		if first&0x40 == 0 || first&0x80 != 0 && first&0x30 != 0 {
			want = api.ErrForm
		}
		notOpened(t, []byte{byte(first)}, 3, k, 40, want)
		notOpened(t, []byte{byte(first)}, 0, k, 40, want)
		if want == api.ErrForm {
			notOpened(t, append([]byte{byte(first)}, whole[1:]...), 3, k, 40, api.ErrForm)
			notOpened(t, append([]byte{byte(first)}, 9, 9, 9), 3, k, 40, api.ErrForm)
		}
	}
	for _, first := range []byte{0x00, 0x80, 0xd0, 0xe0, 0xf0, 0x10} { // sealed as such, too
		notOpened(t, forge(first, between([]byte{7, 8, 9}, nil, []byte{0}, []byte{0x40, 29}), 41, 4, up(9), k), 3, k, 40, api.ErrForm)
	}
}

// P13.3: a long header's bytes that end too early, at every place: ErrShort; the number 0 and the length in any size.
func TestOpenLongEndsEarly(t *testing.T) {
	k := someKeys(6)
	for _, zero := range sizesOfFew {
		for _, length := range sizesOfFew {
			for n := 1; n <= 4; n++ {
				b := longWith(t, zero, length, n, up(30-n), k)
				for size := 1; size < len(b); size++ {
					notOpened(t, b[:size], 3, k, 40, api.ErrShort)
				}
				opens(t, b, 3, k, 40, longWanted(b, up(30-n)))
			}
		}
	}
}

// P13.3: a header that is not long: ErrShort, if there are fewer than 1, to and 20 bytes; with just these, and no such tag, ErrTag.
func TestOpenShortEndsEarly(t *testing.T) {
	k := someKeys(7)
	for to := range 21 {
		for n := 1; n <= 4; n++ {
			h := api.Header{To: up(to), Number: 41}
			b := plainSeal(h, n, up(9), k)
			for size := 1; size < len(b); size++ {
				want := api.ErrTag
				if size < 1+to+20 {
					want = api.ErrShort
				}
				notOpened(t, b[:size], to, k, 40, want)
			}
			least := plainSeal(h, n, shortest(n), k)
			opens(t, least, to, k, 40, result{h, shortest(n), len(least), api.OK})
		}
		notOpened(t, append([]byte{0x40}, make([]byte, to+19)...), to, k, 40, api.ErrShort)
		notOpened(t, append([]byte{0x40}, make([]byte, to+20)...), to, k, 40, api.ErrTag)
	}
}

// places of what a long header tells, in a packet of longWith.
const (
	versionAt = 1
	toAt      = 5
	fromAt    = 9
	zeroAt    = 12
)

// P13.3: another version: ErrForm, also where the bytes end behind it; ErrShort where they end within.
func TestOpenVersion(t *testing.T) {
	k := someKeys(8)
	for bit := range 32 {
		b := longWith(t, 1, 2, 2, up(9), k)
		b[versionAt+bit/8] ^= 0x80 >> (bit % 8)
		notOpened(t, b, 3, k, 40, api.ErrForm)
		notOpened(t, b[:toAt], 3, k, 40, api.ErrForm)
		for size := versionAt; size < toAt; size++ {
			notOpened(t, b[:size], 3, k, 40, api.ErrShort)
		}
		sealed := between([]byte{7, 8, 9}, []byte{5, 6}, []byte{0}, []byte{0x40, 29})
		sealed[bit/8] ^= 0x80 >> (bit % 8)
		notOpened(t, forge(0xc0, sealed, 41, 4, up(9), k), 3, k, 40, api.ErrForm)
	}
}

// P13.3: a length of To that is another one than to: ErrForm, also where the bytes end behind it.
func TestOpenLengthOfTo(t *testing.T) {
	k := someKeys(9)
	b := longWith(t, 1, 2, 2, up(9), k)
	for to := range 21 {
		if to != 3 {
			notOpened(t, b, to, k, 40, api.ErrForm)
			notOpened(t, b[:toAt+1], to, k, 40, api.ErrForm)
		}
		notOpened(t, b[:toAt], to, k, 40, api.ErrShort)
	}
	for told := range 256 {
		other := bytes.Clone(b)
		other[toAt] = byte(told)
		if told != 3 {
			notOpened(t, other, 3, k, 40, api.ErrForm)
			notOpened(t, other[:toAt+1], 3, k, 40, api.ErrForm)
		}
	}
	for to := range 21 { // of just to, from none to the most
		h := api.Header{Long: true, To: up(to), Number: 41}
		sealed := plainSeal(h, 2, up(9), k)
		opens(t, sealed, to, k, 40, result{h, up(9), len(sealed), api.OK})
		for other := range 21 {
			if other != to {
				notOpened(t, sealed, other, k, 40, api.ErrForm)
			}
		}
	}
}

// P13.3: a length of From above 20: ErrForm, also where the bytes end behind it; up to 20 it is ErrShort there.
func TestOpenLengthOfFrom(t *testing.T) {
	k := someKeys(10)
	b := longWith(t, 1, 2, 2, up(300), k)
	for told := range 256 {
		other := bytes.Clone(b)
		other[fromAt] = byte(told)
		want := api.ErrShort
		if told > 20 {
			want = api.ErrForm
			notOpened(t, other, 3, k, 40, api.ErrForm)
		}
		notOpened(t, other[:fromAt+1], 3, k, 40, want)
	}
	for _, size := range []int{21, 22, 100, 255} { // sealed as such, too
		rest := []byte{0x40, 29}
		notOpened(t, forge(0xc0, between([]byte{7, 8, 9}, up(size), []byte{0}, rest), 41, 4, up(9), k), 3, k, 40, api.ErrForm)
	}
	most := forge(0xc0, between([]byte{7, 8, 9}, up(20), []byte{0}, []byte{0x40, 29}), 41, 4, up(9), k)
	opens(t, most, 3, k, 40, result{api.Header{Long: true, To: []byte{7, 8, 9}, From: up(20), Number: 41}, up(9), len(most), api.OK})
}

// P13.3: a number that is not 0: ErrForm, in whatever many bytes, also where the bytes end behind it; ErrShort where they end within.
func TestOpenNumberNotZero(t *testing.T) {
	k := someKeys(11)
	for _, size := range sizesOfFew {
		numbers := []uint64{1, 2, 63, 1 << (8*size - 3), 1<<(8*size-2) - 1}
		for _, number := range numbers {
			told := wide(t, number, size)
			b := forge(0xc0, between([]byte{7, 8, 9}, []byte{5, 6}, told, []byte{0x40, 29}), 41, 4, up(9), k)
			notOpened(t, b, 3, k, 40, api.ErrForm)
			notOpened(t, b[:zeroAt+size], 3, k, 40, api.ErrForm)
			for end := zeroAt; end < zeroAt+size; end++ {
				notOpened(t, b[:end], 3, k, 40, api.ErrShort)
			}
		}
		b := longWith(t, size, 2, 2, up(9), k)
		opens(t, b, 3, k, 40, longWanted(b, up(9)))
	}
}

// P13.3: a length below 20: ErrForm, in whatever many bytes, also where the bytes end behind it; of 20 ErrShort there, or the packet.
func TestOpenLength(t *testing.T) {
	k := someKeys(12)
	for _, size := range sizesOfFew {
		for length := range uint64(41) {
			told := between([]byte{7, 8, 9}, []byte{5, 6}, []byte{0}, wide(t, length, size))
			want := api.ErrShort
			if length < 20 {
				want = api.ErrForm
				notOpened(t, forge(0xc0, told, 41, 4, up(9), k), 3, k, 40, api.ErrForm)
			}
			notOpened(t, append([]byte{0xc0}, told...), 3, k, 40, want)
			notOpened(t, append(append([]byte{0xc0}, told...), up(19)...), 3, k, 40, want)
		}
		for n := 1; n <= 3; n++ {
			b := longWith(t, 1, size, n, up(4-n), k)
			opens(t, b, 3, k, 40, longWanted(b, up(4-n)))
		}
	}
}

// P13.3: a length of more bytes than there are: ErrShort, one more and the greatest that may be told; one less: another tag.
func TestOpenLengthTooGreat(t *testing.T) {
	k := someKeys(13)
	for _, length := range []uint64{30, 31, 63, 64, 16383, 16384, 1 << 29, 1<<31 - 1, 1 << 31, 1<<32 + 29, 1 << 61, api.MaxNumber - 1, api.MaxNumber} {
		told := between([]byte{7, 8, 9}, nil, []byte{0}, wide(t, length, 8))
		notOpened(t, forge(0xc0, told, 41, 4, up(9), k), 3, k, 40, api.ErrShort)
	}
	for length := uint64(20); length < 29; length++ {
		told := between([]byte{7, 8, 9}, nil, []byte{0}, wide(t, length, 8))
		notOpened(t, forge(0xc0, told, 41, 4, up(9), k), 3, k, 40, api.ErrTag)
	}
}

// P13.3: bytes behind a packet whose header is long don't belong to it, another packet neither; behind one that is not, they do.
func TestOpenWithBytesBehind(t *testing.T) {
	k := someKeys(14)
	for _, h := range someHeaders() {
		for n := 1; n <= 4; n++ {
			b := plainSeal(h, n, up(9), k)
			for _, more := range [][]byte{{0}, {0xff}, up(16), some(2000, 15), b} {
				both := append(bytes.Clone(b), more...)
				if h.Long {
					opens(t, both, len(h.To), k, before, result{h, up(9), len(b), api.OK})
				} else {
					notOpened(t, both, len(h.To), k, before, api.ErrTag)
				}
			}
		}
	}
	first, second := longWith(t, 1, 2, 2, up(9), k), longWith(t, 8, 1, 3, up(20), k)
	row := append(bytes.Clone(first), second...)
	opens(t, row, 3, k, 40, longWanted(first, up(9)))
	opens(t, row[len(first):], 3, k, 40, longWanted(second, up(20)))
}

// P13.3: a number above MaxNumber: ErrLimit, as Long; ahead of ErrTag and of the bits that must not be set.
func TestOpenAboveTheLastNumber(t *testing.T) {
	k := someKeys(16)
	for n := 1; n <= 4; n++ {
		half := uint64(1) << (8*n - 1)
		for _, told := range []uint64{0, 1, half - 1, half} {
			for _, first := range []byte{0x40, 0x44, 0x48, 0x50} {
				b := forge(first, up(3), told, n, up(9), k)
				notOpened(t, b, 3, k, api.MaxNumber, api.ErrLimit)
				notOpened(t, tampered(b), 3, k, api.MaxNumber, api.ErrLimit)
			}
			for _, first := range []byte{0xc0, 0xc4, 0xc8} {
				b := forge(first, between(up(3), nil, []byte{0}, []byte{0x40, byte(n + 9 + 16)}), told, n, up(9), k)
				notOpened(t, b, 3, k, api.MaxNumber, api.ErrLimit)
				notOpened(t, tampered(b), 3, k, api.MaxNumber, api.ErrLimit)
			}
		}
		h := api.Header{Number: api.MaxNumber}
		b := plainSeal(h, n, up(9), k)
		opens(t, b, 0, k, api.MaxNumber, result{h, up(9), len(b), api.OK})
	}
}

// P13.3: bits of the first byte that must not be set: ErrForm, where the tag is the right one; another tag is told ahead of them.
func TestOpenSpareBits(t *testing.T) {
	k := someKeys(17)
	for low := byte(0); low < 0x20; low += 4 {
		h := api.Header{To: up(3), Number: 41, Phase: low&4 != 0}
		b := forge(0x40|low, up(3), 41, 2, up(9), k)
		if low&0x18 != 0 {
			notOpened(t, b, 3, k, 40, api.ErrForm)
		} else {
			opens(t, b, 3, k, 40, result{h, up(9), len(b), api.OK})
		}
		notOpened(t, tampered(b), 3, k, 40, api.ErrTag)
		turning := forge(0x60|low, up(3), 41, 2, up(9), k) // the bit 20 is neither masked nor ruled out
		if low&0x18 != 0 {
			notOpened(t, turning, 3, k, 40, api.ErrForm)
		} else {
			opens(t, turning, 3, k, 40, result{h, up(9), len(b), api.OK})
		}
	}
	for low := byte(0); low < 0x10; low += 4 {
		b := forge(0xc0|low, between([]byte{7, 8, 9}, []byte{5, 6}, []byte{0}, []byte{0x40, 27}), 41, 2, up(9), k)
		if low != 0 {
			notOpened(t, b, 3, k, 40, api.ErrForm)
		} else {
			opens(t, b, 3, k, 40, longWanted(b, up(9)))
		}
		notOpened(t, tampered(b), 3, k, 40, api.ErrTag)
	}
}

// P13.3: an empty payload: ErrForm, where the tag is the right one; another tag is told ahead of it.
func TestOpenEmptyPayload(t *testing.T) {
	k := someKeys(18)
	for to := range 21 {
		short := forge(0x40, up(to), 41, 4, nil, k)
		long := forge(0xc0, between(up(to), nil, []byte{0}, []byte{20}), 41, 4, nil, k)
		for _, b := range [][]byte{short, long} {
			notOpened(t, b, to, k, 40, api.ErrForm)
			notOpened(t, tampered(b), to, k, 40, api.ErrTag)
			notOpened(t, b, to, k, 1<<40, api.ErrTag)
		}
		notOpened(t, append(long, 1), to, k, 40, api.ErrForm)
	}
}

// P13.3: other keys, another number that is told, a To of another length: ErrTag.
func TestOpenOtherwise(t *testing.T) {
	k, other := someKeys(19), someKeys(119)
	for _, h := range someHeaders() {
		b := plainSeal(h, 2, up(50), k)
		to := len(h.To)
		notOpened(t, b, to, api.Keys{Key: other.Key, IV: k.IV, Mask: k.Mask}, before, api.ErrTag)
		notOpened(t, b, to, api.Keys{Key: k.Key, IV: other.IV, Mask: k.Mask}, before, api.ErrTag)
		notOpened(t, b, to, api.Keys{Key: k.Key, IV: k.IV, Mask: other.Mask}, before, api.ErrTag)
		notOpened(t, b, to, k, -1, api.ErrTag)
		notOpened(t, b, to, k, 1<<20, api.ErrTag)
		for wrong := range 21 {
			if wrong != to && !h.Long {
				notOpened(t, b, wrong, k, before, api.ErrTag)
			}
		}
	}
}

// P13.3: with a bit turned anywhere a packet is not opened.
func TestOpenTurnedBits(t *testing.T) {
	k := someKeys(20)
	for _, h := range someHeaders() {
		for n := 1; n <= 4; n++ {
			b := plainSeal(h, n, up(5), k)
			for bit := range 8 * len(b) {
				other := bytes.Clone(b)
				other[bit/8] ^= 1 << (bit % 8)
				got := open(other, len(h.To), k, before)
				if got.e == api.OK || !got.same(plainOpen(other, len(h.To), k, before)) {
					t.Fatalf("%+v, %d: bit %d turned: %+v", h, n, bit, got)
				}
			}
		}
	}
}

// P13.3: it names no limit of a packet's bytes: those that aead opens are opened; more are ErrTag.
func TestOpenGreat(t *testing.T) {
	k := someKeys(21)
	for _, size := range []int{1200, 1201, 5000, 1 << 14, 1 << 16, api.MaxBytes - 1, api.MaxBytes} {
		payload := some(size, 22)
		h := api.Header{To: up(3), Number: 41}
		b := forge(0x40, h.To, 41, 2, payload, k)
		opens(t, b, 3, k, 40, result{h, payload, len(b), api.OK})
		long := longWith(t, 1, 4, 2, payload, k)
		opens(t, append(bytes.Clone(long), 9), 3, k, 40, longWanted(long, payload))
	}
	for _, size := range []int{api.MaxBytes + 1, api.MaxBytes + 20, 3 * api.MaxBytes} {
		notOpened(t, append([]byte{0x40}, make([]byte, 3+4+size+16)...), 3, k, 40, api.ErrTag)
		head := append([]byte{0xc0}, between([]byte{7, 8, 9}, nil, []byte{0}, wide(t, uint64(4+size+16), 8))...)
		notOpened(t, append(head, make([]byte, 4+size+16)...), 3, k, 40, api.ErrTag)
		notOpened(t, append(head, make([]byte, 4+size+15)...), 3, k, 40, api.ErrShort)
	}
}

// changed: bytes of a packet with something done to them.
func changed(r *rand.Rand, b []byte) []byte {
	b = bytes.Clone(b)
	for range r.Intn(4) {
		switch at := r.Intn(len(b)); r.Intn(6) {
		case 0:
			b[at] ^= 1 << r.Intn(8)
		case 1:
			b[at] = byte(r.Intn(256))
		case 2:
			b[min(at, r.Intn(16))] = byte(r.Intn(30))
		case 3:
			b = b[:at+1]
		case 4:
			b = append(b, some(r.Intn(30), int64(at))...)
		default:
			b = append(b[:at:at], append([]byte{byte(r.Intn(256))}, b[at:]...)...)
		}
	}
	return b
}

// P13.3, R1: any bytes, packets with something done to them, other packets: as the chapter's words have it.
func TestOpenAgainstPlain(t *testing.T) {
	r := rand.New(rand.NewSource(23))
	k := someKeys(24)
	seen := map[api.Errno]int{}
	check := func(b []byte, to int, came int64) {
		t.Helper()
		want := plainOpen(b, to, k, came)
		seen[want.e]++
		opens(t, b, to, k, came, want)
	}
	for i := range 20000 {
		check(some(r.Intn(80), int64(i)), r.Intn(21), r.Int63()>>(1+r.Intn(63))-1)
		long := append([]byte{0xc0 | byte(r.Intn(64)), 0, 0, 0, 1, byte(r.Intn(4)), byte(r.Intn(4))}, some(r.Intn(80), int64(i)+1)...)
		check(long, r.Intn(4), r.Int63()>>(1+r.Intn(63))-1)
	}
	for range 20000 {
		n := 1 + r.Intn(4)
		payload := up(4 - n + r.Intn(9))
		told := between(up(r.Intn(3)), up(r.Intn(22)), wide(t, 0, sizesOfFew[r.Intn(4)]), wide(t, uint64(n+len(payload)+16), sizesOfFew[r.Intn(4)]))
		first := 0xc0 | byte(r.Intn(3)/2*r.Intn(64))&^3
		if r.Intn(2) == 0 {
			told, first = up(r.Intn(3)), first&^0x80
		}
		number := uint64(r.Intn(1000))
		b := forge(first, told, number, n, payload, k)
		check(changed(r, b), r.Intn(3), int64(number)-1-int64(r.Intn(200)))
		check(b, r.Intn(3), api.MaxNumber)
		check(b, r.Intn(3), int64(number)-1)
	}
	for _, e := range []api.Errno{api.OK, api.ErrShort, api.ErrForm, api.ErrLimit, api.ErrTag} {
		if seen[e] < 100 {
			t.Errorf("error %d was seen %d times alone", e, seen[e])
		}
	}
}

// R1: bytes that a fuzzer makes are opened as the chapter's words have it; what is opened and sealed again in as few bytes is opened as the same.
func FuzzOpen(f *testing.F) {
	k := someKeys(25)
	for i, h := range someHeaders() {
		f.Add(plainSeal(h, 1+i%4, up(4), k), len(h.To), int64(before))
	}
	f.Add([]byte{0xc0, 0, 0, 0, 1, 0, 0, 0xc0}, 0, int64(-1))
	f.Fuzz(func(t *testing.T, b []byte, to int, came int64) {
		got := open(b, to, k, came)
		if to < 0 || to > 20 || came > api.MaxNumber {
			if !got.same(result{e: api.ErrArg}) {
				t.Fatalf("%+v", got)
			}
			return
		}
		if !got.same(plainOpen(b, to, k, came)) {
			t.Fatalf("%+v", got)
		}
		if got.e != api.OK || len(got.payload) > 1000 {
			return
		}
		again, e := packet.Seal(got.h, 4, got.payload, k)
		if e != api.OK {
			t.Fatal(e)
		}
		opens(t, again, to, k, int64(got.h.Number)-1, result{got.h, got.payload, len(again), api.OK})
	})
}
