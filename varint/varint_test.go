package varint_test

import (
	"bytes"
	"encoding/hex"
	"math"
	"math/big"
	"slices"
	"strings"
	"testing"

	"mailcoach/api"
	"mailcoach/varint"
)

// wrongBits are numbers of bits that no byte has to give.
var wrongBits = []int{math.MinInt, -64, -8, -1, 0, 9, 10, 16, 62, 63, 64, 65, 256 + 5, math.MaxInt}

func unhex(t *testing.T, s string) []byte {
	t.Helper()
	b, err := hex.DecodeString(strings.ReplaceAll(s, " ", ""))
	if err != nil {
		t.Fatal(err)
	}
	return b
}

// edges: small numbers, and those around each power of 2, up to MaxNumber.
func edges() []uint64 {
	seen := map[uint64]int{}
	var l []uint64
	add := func(n uint64) {
		if _, ok := seen[n]; n <= api.MaxNumber && !ok {
			seen[n] = 1
			l = append(l, n)
		}
	}
	for n := range uint64(300) {
		add(n)
	}
	for k := range 63 {
		for d := range uint64(3) {
			add(1<<k + d - 1)
		}
	}
	for _, n := range []uint64{15293, 494878333, 151288809941952652, api.MaxNumber - 255, api.MaxNumber - 1, api.MaxNumber} {
		add(n)
	}
	return l
}

func aboveMax() []uint64 {
	return []uint64{api.MaxNumber + 1, api.MaxNumber + 2, 1 << 63, 1<<63 + 5, math.MaxUint64 - 1, math.MaxUint64}
}

func wantPut(t *testing.T, n uint64, want string) {
	t.Helper()
	if b, e := varint.Put(n); !bytes.Equal(b, unhex(t, want)) || e != api.OK {
		t.Errorf("Put(%d) = %x, %d, not %s", n, b, e, want)
	}
}

func wantGet(t *testing.T, b []byte, n uint64, length int, e api.Errno) {
	t.Helper()
	if n1, length1, e1 := varint.Get(b); n1 != n || length1 != length || e1 != e {
		t.Errorf("Get(%x) = %d, %d, %d, not %d, %d, %d", b, n1, length1, e1, n, length, e)
	}
}

func wantPutPrefix(t *testing.T, first byte, bits int, n uint64, want []byte, e api.Errno) {
	t.Helper()
	if b, e1 := varint.PutPrefix(first, bits, n); !bytes.Equal(b, want) || e1 != e {
		t.Errorf("PutPrefix(%x, %d, %d) = %x, %d, not %x, %d", first, bits, n, b, e1, want, e)
	}
}

func wantGetPrefix(t *testing.T, bits int, b []byte, above byte, n uint64, length int, e api.Errno) {
	t.Helper()
	above1, n1, length1, e1 := varint.GetPrefix(bits, b)
	if above1 != above || n1 != n || length1 != length || e1 != e {
		t.Errorf("GetPrefix(%d, %x) = %x, %d, %d, %d, not %x, %d, %d, %d", bits, b, above1, n1, length1, e1, above, n, length, e)
	}
}

// P1.1: the chapter's examples, and where a number needs more bytes.
func TestPut(t *testing.T) {
	for _, c := range []struct {
		n    uint64
		want string
	}{
		{0, "00"}, {1, "01"}, {37, "25"}, {63, "3f"},
		{64, "40 40"}, {15293, "7b bd"}, {16383, "7f ff"},
		{16384, "80 00 40 00"}, {494878333, "9d 7f 3e 7d"}, {1<<30 - 1, "bf ff ff ff"},
		{1 << 30, "c0 00 00 00 40 00 00 00"}, {151288809941952652, "c2 19 7c 5e ff 14 e8 8c"},
		{1 << 61, "e0 00 00 00 00 00 00 00"}, {api.MaxNumber - 1, "ff ff ff ff ff ff ff fe"}, {api.MaxNumber, "ff ff ff ff ff ff ff ff"},
	} {
		wantPut(t, c.n, c.want)
	}
}

// P1.1: as few bytes as can be, at all edges.
func TestPutIsShortest(t *testing.T) {
	for _, n := range edges() {
		want := 8
		switch {
		case n < 1<<6:
			want = 1
		case n < 1<<14:
			want = 2
		case n < 1<<30:
			want = 4
		}
		if b, e := varint.Put(n); len(b) != want || e != api.OK {
			t.Errorf("Put(%d) = %x, %d: not of %d bytes", n, b, e, want)
		}
	}
}

// P1.1: numbers that may not be.
func TestPutAboveMaxNumber(t *testing.T) {
	for _, n := range aboveMax() {
		if b, e := varint.Put(n); len(b) != 0 || e != api.ErrArg {
			t.Errorf("Put(%d) = %x, %d", n, b, e)
		}
	}
}

// P1.1: the chapter's examples, and numbers in more bytes than needed.
func TestGet(t *testing.T) {
	for _, c := range []struct {
		b      string
		n      uint64
		length int
	}{
		{"00", 0, 1}, {"25 ff", 37, 1}, {"3f", 63, 1}, {"40 25", 37, 2}, {"40 00", 0, 2}, {"40 3f 40", 63, 2}, {"7f ff", 16383, 2},
		{"80 00 00 25", 37, 4}, {"80 00 00 00", 0, 4}, {"80 00 3f ff 00", 16383, 4}, {"9d 7f 3e 7d", 494878333, 4}, {"bf ff ff ff", 1<<30 - 1, 4},
		{"c0 00 00 00 00 00 00 25", 37, 8}, {"c0 00 00 00 00 00 00 00", 0, 8}, {"c0 00 00 00 3f ff ff ff ff", 1<<30 - 1, 8},
		{"c2 19 7c 5e ff 14 e8 8c", 151288809941952652, 8}, {"ff ff ff ff ff ff ff ff ff", api.MaxNumber, 8},
	} {
		wantGet(t, unhex(t, c.b), c.n, c.length, api.OK)
	}
}

// P1.1: no byte, and too few of each length.
func TestGetShort(t *testing.T) {
	wantGet(t, nil, 0, 0, api.ErrShort)
	wantGet(t, []byte{}, 0, 0, api.ErrShort)
	for kind, length := range []int{1, 2, 4, 8} {
		for _, fill := range []byte{0, 0x3f} {
			whole := append([]byte{byte(kind<<6) | fill}, bytes.Repeat([]byte{fill}, length-1)...)
			for n := range length {
				wantGet(t, whole[:n], 0, 0, api.ErrShort)
			}
		}
	}
}

// P1.2: the chapter's examples.
func TestPutPrefix(t *testing.T) {
	for _, c := range []struct {
		first byte
		bits  int
		n     uint64
		want  string
		e     api.Errno
	}{
		{0, 5, 10, "0a", 0}, {0, 5, 1337, "1f 9a 0a", 0}, {0, 8, 42, "2a", 0}, {0xe0, 5, 31, "ff 00", 0},
		{0x10, 5, 1, "", api.ErrArg}, {0, 9, 1, "", api.ErrArg},
	} {
		wantPutPrefix(t, c.first, c.bits, c.n, unhex(t, c.want), c.e)
	}
}

// P1.2: n just below m, at m and above, where a byte more is needed, and the greatest, for all bits.
func TestPutPrefixEdges(t *testing.T) {
	for bits := 1; bits <= 8; bits++ {
		m := uint64(1)<<bits - 1
		first := byte(0xff) << bits
		whole := first | byte(m)
		wantPutPrefix(t, first, bits, 0, []byte{first}, api.OK)
		wantPutPrefix(t, 0, bits, m-1, []byte{byte(m - 1)}, api.OK)
		wantPutPrefix(t, first, bits, m-1, []byte{first | byte(m-1)}, api.OK)
		wantPutPrefix(t, 0, bits, m, []byte{byte(m), 0}, api.OK)
		wantPutPrefix(t, first, bits, m, []byte{whole, 0}, api.OK)
		wantPutPrefix(t, first, bits, m+1, []byte{whole, 1}, api.OK)
		wantPutPrefix(t, first, bits, m+127, []byte{whole, 127}, api.OK)
		wantPutPrefix(t, first, bits, m+128, []byte{whole, 128, 1}, api.OK)
		wantPutPrefix(t, first, bits, m+129, []byte{whole, 129, 1}, api.OK)
		wantPutPrefix(t, first, bits, m+1<<14-1, []byte{whole, 255, 127}, api.OK)
		wantPutPrefix(t, first, bits, m+1<<14, []byte{whole, 128, 128, 1}, api.OK)
		wantPutPrefix(t, first, bits, m+1<<56-1, append(append([]byte{whole}, bytes.Repeat([]byte{255}, 7)...), 127), api.OK)
		wantPutPrefix(t, first, bits, m+1<<56, append(append([]byte{whole}, bytes.Repeat([]byte{128}, 8)...), 1), api.OK)
		for _, n := range edges() {
			if n >= m {
				wantPutPrefix(t, first, bits, n, prefixBytes(first, bits, new(big.Int).SetUint64(n), 1), api.OK)
			}
		}
	}
	wantPutPrefix(t, 0, 1, api.MaxNumber, unhex(t, "01 fe ff ff ff ff ff ff ff 3f"), api.OK)
	wantPutPrefix(t, 0, 8, api.MaxNumber, unhex(t, "ff 80 fe ff ff ff ff ff ff 3f"), api.OK)
}

// P1.2: bits that are not 1 to 8, each first byte, and numbers that may not be.
func TestPutPrefixWrong(t *testing.T) {
	for _, bits := range wrongBits {
		for _, n := range []uint64{0, 1, 1337, api.MaxNumber} {
			wantPutPrefix(t, 0, bits, n, nil, api.ErrArg)
			wantPutPrefix(t, 0x80, bits, n, nil, api.ErrArg)
		}
	}
	for bits := 1; bits <= 8; bits++ {
		for first := range 256 {
			clear := first%(1<<bits) == 0
			for _, n := range []uint64{0, 255, 1337, api.MaxNumber} {
				if b, e := varint.PutPrefix(byte(first), bits, n); (e == api.OK) != clear || e != api.OK && (e != api.ErrArg || len(b) != 0) {
					t.Errorf("PutPrefix(%x, %d, %d) = %x, %d", first, bits, n, b, e)
				}
			}
		}
		for _, n := range aboveMax() {
			wantPutPrefix(t, 0, bits, n, nil, api.ErrArg)
		}
	}
}

// P1.3: the chapter's examples.
func TestGetPrefix(t *testing.T) {
	for _, c := range []struct {
		bits   int
		b      string
		above  byte
		n      uint64
		length int
		e      api.Errno
	}{
		{5, "ea", 0xe0, 10, 1, 0}, {5, "1f 9a 0a ff", 0, 1337, 3, 0}, {5, "1f 9a 8a 00", 0, 1337, 4, 0},
		{5, "", 0, 0, 0, api.ErrShort}, {5, "1f", 0, 0, 0, api.ErrShort}, {5, "1f 80", 0, 0, 0, api.ErrShort},
		{1, "01 ff ff ff ff ff ff ff ff ff ff", 0, 0, 0, api.ErrForm},
		{1, "01 ff ff ff ff ff ff ff ff ff 01", 0, 0, 0, api.ErrLimit},
	} {
		wantGetPrefix(t, c.bits, unhex(t, c.b), c.above, c.n, c.length, c.e)
	}
}

// P1.3: bits that are not 1 to 8, with and without bytes.
func TestGetPrefixWrongBits(t *testing.T) {
	for _, bits := range wrongBits {
		for _, b := range []string{"", "00", "0a", "1f 80", "ff ff ff ff ff ff ff ff ff ff ff"} {
			wantGetPrefix(t, bits, unhex(t, b), 0, 0, 0, api.ErrArg)
		}
	}
}

// P1.3: each first byte: whether the number ends there, and what stands above it.
func TestGetPrefixFirstByte(t *testing.T) {
	for bits := 1; bits <= 8; bits++ {
		wantGetPrefix(t, bits, nil, 0, 0, 0, api.ErrShort)
		wantGetPrefix(t, bits, []byte{}, 0, 0, 0, api.ErrShort)
		for first := range 256 {
			k := first % (1 << bits)
			above := byte(first - k)
			if k < 1<<bits-1 {
				wantGetPrefix(t, bits, []byte{byte(first)}, above, uint64(k), 1, api.OK)
				wantGetPrefix(t, bits, []byte{byte(first), 0xff}, above, uint64(k), 1, api.OK)
				continue
			}
			wantGetPrefix(t, bits, []byte{byte(first)}, 0, 0, 0, api.ErrShort)
			wantGetPrefix(t, bits, []byte{byte(first), 0}, above, uint64(k), 2, api.OK)
			wantGetPrefix(t, bits, []byte{byte(first), 5, 9}, above, uint64(k)+5, 2, api.OK)
		}
	}
}

// P1.3: bytes of 128 or above behind the first one: fewer than ten, ten, more.
func TestGetPrefixWithoutEnd(t *testing.T) {
	for bits := 1; bits <= 8; bits++ {
		for _, c := range []byte{0x80, 0x81, 0xff} {
			for n := range 14 {
				b := append([]byte{0xff}, bytes.Repeat([]byte{c}, n)...)
				want := api.ErrShort
				if n >= 10 {
					want = api.ErrForm
					wantGetPrefix(t, bits, append(bytes.Clone(b), 0), 0, 0, 0, want)
				}
				wantGetPrefix(t, bits, b, 0, 0, 0, want)
			}
		}
	}
}

// P1.3: MaxNumber, and more, in as few bytes as can be and in more.
func TestGetPrefixLimit(t *testing.T) {
	most := new(big.Int).SetUint64(api.MaxNumber)
	for bits := 1; bits <= 8; bits++ {
		above := byte(0xff) << bits
		for length := 9; length <= 10; length++ {
			wantGetPrefix(t, bits, prefixBytes(above, bits, most, length), above, api.MaxNumber, 1+length, api.OK)
			for more := range int64(300) {
				b := prefixBytes(above, bits, new(big.Int).Add(most, big.NewInt(more+1)), length)
				wantGetPrefix(t, bits, b, 0, 0, 0, api.ErrLimit)
			}
		}
		// Numbers whose lowest 64 bits alone would be small.
		for k := uint(62); k < 70; k++ {
			b := prefixBytes(above, bits, new(big.Int).Lsh(big.NewInt(1), k), 10)
			wantGetPrefix(t, bits, b, 0, 0, 0, api.ErrLimit)
		}
	}
}

// prefixBytes: the number n, which is at least 2^bits - 1, in at least so many bytes of 7 bits; it may be above MaxNumber.
func prefixBytes(above byte, bits int, n *big.Int, atLeast int) []byte {
	m := int64(1)<<bits - 1
	rest := new(big.Int).Sub(n, big.NewInt(m))
	b := []byte{above | byte(m)}
	for rest.BitLen() > 7 || len(b) < atLeast {
		low := new(big.Int).And(rest, big.NewInt(127))
		b = append(b, byte(low.Int64())+128)
		rest.Rsh(rest, 7)
	}
	return append(b, byte(rest.Int64()))
}

// prefixOf: what P1.3 says, by numbers without a bound.
func prefixOf(bits int, b []byte) (byte, uint64, int, api.Errno) {
	if len(b) == 0 {
		return 0, 0, 0, api.ErrShort
	}
	m := 1<<bits - 1
	k := int(b[0]) % (m + 1)
	above := b[0] - byte(k)
	if k < m {
		return above, uint64(k), 1, api.OK
	}
	behind := b[1:min(len(b), 11)]
	last := slices.IndexFunc(behind, func(c byte) bool { return c < 128 })
	if last < 0 && len(behind) < 10 {
		return 0, 0, 0, api.ErrShort
	}
	if last < 0 {
		return 0, 0, 0, api.ErrForm
	}
	n := new(big.Int)
	for i := last; i >= 0; i-- {
		n.Lsh(n, 7).Add(n, big.NewInt(int64(behind[i]%128)))
	}
	n.Add(n, big.NewInt(int64(m)))
	if n.Cmp(big.NewInt(api.MaxNumber)) > 0 {
		return 0, 0, 0, api.ErrLimit
	}
	return above, n.Uint64(), last + 2, api.OK
}

// P1.3: rows of bytes of many shapes, against what the document says.
func TestGetPrefixShapes(t *testing.T) {
	tails := [][]byte{nil, {0}, {1}, {2}, {0x3e}, {0x3f}, {0x40}, {0x7e}, {0x7f}, {0x80, 0}, {0xff, 1}, {0xbf, 0}, {0xbf, 1}, {0x80, 1}, {0xc0, 0}}
	for bits := 1; bits <= 8; bits++ {
		for _, first := range []byte{0, 1, 0x0f, 0x1f, 0x7f, 0xfe, 0xff} {
			for _, fill := range []byte{0x80, 0x81, 0x8f, 0xfe, 0xff} {
				for n := range 13 {
					for _, tail := range tails {
						b := append([]byte{first}, bytes.Repeat([]byte{fill}, n)...)
						b = append(b, tail...)
						above, k, length, e := prefixOf(bits, b)
						wantGetPrefix(t, bits, b, above, k, length, e)
					}
				}
			}
		}
	}
}

// P1.4: what is put is got, whatever stands behind it, and put again it is as it was.
func TestPutIsGot(t *testing.T) {
	behind := [][]byte{nil, {0}, {0x7f}, {0x80}, {0xff, 0xff}, bytes.Repeat([]byte{0xff}, 12), make([]byte, 12)}
	for _, n := range edges() {
		b, _ := varint.Put(n)
		for _, x := range behind {
			wantGet(t, append(bytes.Clone(b), x...), n, len(b), api.OK)
		}
		for bits := 1; bits <= 8; bits++ {
			for _, first := range []byte{0, 0x80, 0xaa, 0xff} {
				first = first >> bits << bits
				b, e := varint.PutPrefix(first, bits, n)
				if e != api.OK {
					t.Errorf("PutPrefix(%x, %d, %d): %d", first, bits, n, e)
				}
				for _, x := range behind {
					wantGetPrefix(t, bits, append(bytes.Clone(b), x...), first, n, len(b), api.OK)
				}
			}
		}
	}
}

// P1.4: no number's bytes begin another number's.
func TestNoNumberBeginsAnother(t *testing.T) {
	l := edges()
	check := func(put func(n uint64) []byte) {
		t.Helper()
		all := make([][]byte, len(l))
		for i, n := range l {
			all[i] = put(n)
		}
		for i, a := range all {
			for j, b := range all {
				if i != j && bytes.HasPrefix(b, a) {
					t.Fatalf("%d is %x, %d is %x", l[i], a, l[j], b)
				}
			}
		}
	}
	check(func(n uint64) []byte { b, _ := varint.Put(n); return b })
	for bits := 1; bits <= 8; bits++ {
		check(func(n uint64) []byte { b, _ := varint.PutPrefix(0, bits, n); return b })
	}
}

// P1.4: what is got, put again, has as many bytes at most.
func TestGotPutAgain(t *testing.T) {
	for _, n := range edges() {
		for kind, length := range []int{1, 2, 4, 8} {
			b := make([]byte, length)
			rest := n
			for i := length - 1; i >= 0; i-- {
				b[i] = byte(rest)
				rest >>= 8
			}
			b[0] = b[0]&0x3f | byte(kind<<6)
			got, length, e := varint.Get(b)
			again, e1 := varint.Put(got)
			if e != api.OK || e1 != api.OK || len(again) > length {
				t.Errorf("%x: %d of %d bytes, put again %x", b, got, length, again)
			}
		}
		for bits := 1; bits <= 8; bits++ {
			if n < 1<<bits-1 {
				continue
			}
			for length := 1; length <= 10; length++ {
				b := prefixBytes(0, bits, new(big.Int).SetUint64(n), length)
				above, got, length, e := varint.GetPrefix(bits, b)
				again, e1 := varint.PutPrefix(above, bits, got)
				if e != api.OK || e1 != api.OK || got != n || len(again) > length {
					t.Errorf("%x: %d of %d bytes, put again %x", b, got, length, again)
				}
			}
		}
	}
}

// R4: what is handed in stays as it is, its spare room too; answers share nothing.
func TestMemory(t *testing.T) {
	room := unhex(t, "ff 9a 0a 01 02 03 04 05 06 07 08 09")
	kept := bytes.Clone(room)
	varint.Get(room[:8])
	varint.GetPrefix(5, room[:3])
	varint.GetPrefix(8, room[:2])
	if !bytes.Equal(room, kept) {
		t.Errorf("%x became %x", kept, room)
	}
	for _, n := range []uint64{0, 37, 15293, api.MaxNumber} {
		a, _ := varint.Put(n)
		b, _ := varint.Put(n)
		wantApart(t, a, b)
		a, _ = varint.PutPrefix(0, 5, n)
		b, _ = varint.PutPrefix(0, 5, n)
		wantApart(t, a, b)
	}
}

// wantApart: two answers that are the same, but no memory of one is the other's.
func wantApart(t *testing.T, a, b []byte) {
	t.Helper()
	kept := bytes.Clone(b)
	for i := range a[:cap(a)] {
		a[:cap(a)][i] ^= 0xff
	}
	if !bytes.Equal(b, kept) {
		t.Errorf("%x became %x", kept, b)
	}
}
