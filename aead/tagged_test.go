package aead

import (
	"bytes"
	"testing"
)

// What a tag is made of, byte by byte, of any number of lists.
func TestTagged(t *testing.T) {
	zeros := func(n int) []byte { return make([]byte, n) }
	x := bytes.Repeat([]byte{0x78}, 300)
	for _, c := range []struct {
		lists [][]byte
		want  [][]byte
	}{
		{nil, nil},
		{[][]byte{nil}, [][]byte{zeros(8)}},
		{[][]byte{nil, {}}, [][]byte{zeros(16)}},
		{[][]byte{x[:1], nil}, [][]byte{x[:1], zeros(15), {1}, zeros(15)}},
		{[][]byte{nil, x[:15]}, [][]byte{x[:15], zeros(1), zeros(8), {15}, zeros(7)}},
		{[][]byte{x[:16], x[:17]}, [][]byte{x[:33], zeros(15), {16}, zeros(7), {17}, zeros(7)}},
		{[][]byte{x, x[:2], x[:48]}, [][]byte{x, zeros(4), x[:2], zeros(14), x[:48], {0x2c, 1}, zeros(6), {2}, zeros(7), {48}, zeros(7)}},
	} {
		if b, want := tagged(c.lists...), bytes.Join(c.want, nil); !bytes.Equal(b, want) {
			t.Errorf("%x: %x, not %x", c.lists, b, want)
		}
	}
}

// The lists that are tagged stay as they are, the room behind them too.
func TestTaggedLeavesLists(t *testing.T) {
	b := bytes.Repeat([]byte{0x78}, 100)
	tagged(b[:17], b[40:50])
	if !bytes.Equal(b, bytes.Repeat([]byte{0x78}, 100)) {
		t.Errorf("%x", b)
	}
}

// Bytes are an array of as many, and of no other number.
func TestArrayOf(t *testing.T) {
	b := []byte("0123456789abcdef0123456789ABCDEF012")
	for size := range b {
		twelve, ok := arrayOf[[12]byte](b[:size])
		if ok != (size == 12) || ok && string(twelve[:]) != string(b[:12]) || !ok && twelve != [12]byte{} {
			t.Errorf("%d bytes: %q, %t", size, twelve, ok)
		}
		tag, ok := arrayOf[[16]byte](b[:size])
		if ok != (size == 16) || ok && string(tag[:]) != string(b[:16]) || !ok && tag != [16]byte{} {
			t.Errorf("%d bytes: %q, %t", size, tag, ok)
		}
		key, ok := arrayOf[[32]byte](b[:size])
		if ok != (size == 32) || ok && string(key[:]) != string(b[:32]) || !ok && key != [32]byte{} {
			t.Errorf("%d bytes: %q, %t", size, key, ok)
		}
	}
}

// Two tags are the same only if all of their bits are.
func TestSame(t *testing.T) {
	var zeros, ones [tagSize]byte
	for i := range ones {
		ones[i] = 0xff
	}
	if !same(zeros, zeros) || !same(ones, ones) || same(zeros, ones) || same(ones, zeros) {
		t.Error("tags of one byte each")
	}
	for bit := range 8 * tagSize {
		other := ones
		other[bit/8] ^= 1 << (bit % 8)
		if same(other, ones) || same(ones, other) || !same(other, other) {
			t.Errorf("bit %d", bit)
		}
	}
}
