package chacha

import (
	"math"
	"testing"
)

// RFC 8439, 2.1.1: four words, a quarter round further.
func TestQuarterRound(t *testing.T) {
	a, b, c, d := quarterRound(0x11111111, 0x01020304, 0x9b8d6f43, 0x01234567)
	if a != 0xea2a92f4 || b != 0xcb1cf8ce || c != 0x4581472e || d != 0x5881c4bb {
		t.Errorf("%08x %08x %08x %08x", a, b, c, d)
	}
}

// The state of the chapter's first example, word by word (RFC 8439, 2.3.2).
func TestStateOf(t *testing.T) {
	var key [32]byte
	for i := range key {
		key[i] = byte(i)
	}
	want := state{
		0x61707865, 0x3320646e, 0x79622d32, 0x6b206574,
		0x03020100, 0x07060504, 0x0b0a0908, 0x0f0e0d0c,
		0x13121110, 0x17161514, 0x1b1a1918, 0x1f1e1d1c,
		0x00000001, 0x09000000, 0x4a000000, 0x00000000,
	}
	if s := stateOf(key, 1, [12]byte{3: 9, 7: 0x4a}); s != want {
		t.Errorf("%08x", s)
	}
}

// The stream tells as many bytes as it is asked for: those of the blocks, one behind the other.
func TestStreamTellsBlocks(t *testing.T) {
	key, nonce := [32]byte{5}, [12]byte{6}
	for _, size := range []int{0, 1, 63, 64, 65, 128, 129, 300} {
		place := 0
		for x := range stream(key, 9, nonce, size) {
			if block := Block(key, 9+uint32(place/64), nonce); x != block[place%64] {
				t.Errorf("%d bytes: %02x at place %d", size, x, place)
			}
			place++
		}
		if place != size {
			t.Errorf("%d bytes, not %d", place, size)
		}
	}
}

// A loop over the stream may be left at each byte.
func TestStreamLeftEarly(t *testing.T) {
	for _, leave := range []int{1, 2, 63, 64, 65, 127, 128, 129, 130} {
		seen := 0
		for range stream([32]byte{}, 0, [12]byte{}, 130) {
			seen++
			if seen == leave {
				break
			}
		}
		if seen != leave {
			t.Errorf("left at byte %d: %d seen", leave, seen)
		}
	}
}

// P4.2: how many blocks bytes need, and how many counts are left.
func TestBlocksAndCounts(t *testing.T) {
	for _, c := range []struct {
		size int
		want uint64
	}{{0, 0}, {1, 1}, {63, 1}, {64, 1}, {65, 2}, {128, 2}, {129, 3}, {1 << 20, 1 << 14}} {
		if n := blocksOf(c.size); n != c.want {
			t.Errorf("%d bytes: %d blocks", c.size, n)
		}
	}
	for _, c := range []struct {
		count uint32
		want  uint64
	}{{0, 1 << 32}, {1, 1<<32 - 1}, {math.MaxUint32 - 1, 2}, {math.MaxUint32, 1}} {
		if n := countsLeft(c.count); n != c.want {
			t.Errorf("from %d: %d counts", c.count, n)
		}
	}
}
