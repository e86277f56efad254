// Package varint is layer 1: numbers in few bytes. See doc/01-varint.md.
package varint

import (
	"iter"

	"mailcoach/api"
)

// lengths: how many bytes a number has, by the two highest bits of its first byte.
var lengths = [4]int{1, 2, 4, 8}

// mostSevens: so many bytes of 7 bits hold more than any number needs; if none of them is the last one, none is waited for.
const mostSevens = 10

// Put: a number in as few bytes as it can be. (P1.1)
func Put(n uint64) ([]byte, api.Errno) {
	if n > api.MaxNumber {
		return nil, api.ErrArg
	}
	kind := 0
	for n>>(8*lengths[kind]-2) != 0 { // ends at the last kind: MaxNumber fits there
		kind++
	}
	b := make([]byte, lengths[kind])
	for i := range b {
		b[len(b)-1-i] = byte(n >> (8 * i))
	}
	b[0] |= byte(kind << 6)
	return b, api.OK
}

// Get: the number that bytes begin with, and how many they are. (P1.1)
func Get(b []byte) (uint64, int, api.Errno) {
	if len(b) == 0 {
		return 0, 0, api.ErrShort
	}
	length := lengths[b[0]>>6]
	if len(b) < length {
		return 0, 0, api.ErrShort
	}
	n := uint64(b[0] & 0x3f)
	for _, c := range b[1:length] {
		n = n<<8 | uint64(c)
	}
	return n, length, api.OK
}

// PutPrefix: a number behind the highest bits of a byte, of which it gets the lowest bits. (P1.2)
func PutPrefix(first byte, bits int, n uint64) ([]byte, api.Errno) {
	if !mayBeBits(bits) || n > api.MaxNumber {
		return nil, api.ErrArg
	}
	m := ones(bits)
	if uint64(first)&m != 0 {
		return nil, api.ErrArg
	}
	if n < m {
		return []byte{first | byte(n)}, api.OK
	}
	b := []byte{first | byte(m)}
	for c := range sevens(n - m) {
		b = append(b, c)
	}
	return b, api.OK
}

// GetPrefix: back: what stands above it, the number, how many bytes. (P1.3)
func GetPrefix(bits int, b []byte) (byte, uint64, int, api.Errno) {
	if !mayBeBits(bits) {
		return 0, 0, 0, api.ErrArg
	}
	if len(b) == 0 {
		return 0, 0, 0, api.ErrShort
	}
	m := ones(bits)
	above, k := b[0]&^byte(m), uint64(b[0])&m
	if k < m {
		return above, k, 1, api.OK
	}
	rest, length, e := getSevens(b[1:])
	if e != api.OK {
		return 0, 0, 0, e
	}
	if rest > api.MaxNumber-m {
		return 0, 0, 0, api.ErrLimit
	}
	return above, m + rest, 1 + length, api.OK
}

// mayBeBits: can so many bits be the lowest ones of a byte that a number begins in?
func mayBeBits(bits int) bool { return bits >= 1 && bits <= 8 }

// ones: the number whose bits lowest bits are set, and no others.
func ones(bits int) uint64 { return 1<<bits - 1 }

// sevens tells the bytes of 7 bits that a number has, the lowest bits first: 128 more in each but the last one.
func sevens(n uint64) iter.Seq[byte] {
	return func(yield func(byte) bool) {
		rest := n
		for rest >= 128 {
			if !yield(byte(rest) | 128) {
				return
			}
			rest >>= 7
		}
		yield(byte(rest))
	}
}

// comingSevens tells, with their places, the bytes of 7 bits that bytes begin with: up to the last one of a number, or as many as may be.
func comingSevens(b []byte) iter.Seq2[int, byte] {
	return func(yield func(int, byte) bool) {
		for i, c := range b {
			if i == mostSevens || !yield(i, c) || c < 128 {
				return
			}
		}
	}
}

// getSevens: the number that the bytes of 7 bits tell, and how many they are.
func getSevens(b []byte) (uint64, int, api.Errno) {
	n := uint64(0)
	for i, c := range comingSevens(b) {
		part := uint64(c & 127)
		n |= part << (7 * i)
		if c >= 128 {
			continue
		}
		// The shift loses bits at the tenth byte alone, so that it's enough to ask at the last one.
		if part > api.MaxNumber>>(7*i) {
			return 0, 0, api.ErrLimit
		}
		return n, i + 1, api.OK
	}
	if len(b) < mostSevens {
		return 0, 0, api.ErrShort
	}
	return 0, 0, api.ErrForm
}
