package sha_test

import (
	"bytes"
	"crypto/sha256"
	"encoding/binary"
	"encoding/hex"
	"math/rand"
	"strings"
	"sync"
	"testing"

	"mailcoach/api"
	"mailcoach/sha"
)

// startWords are the words H as the document prints them.
var startWords = [8]uint32{0x6a09e667, 0xbb67ae85, 0x3c6ef372, 0xa54ff53a, 0x510e527f, 0x9b05688c, 0x1f83d9ab, 0x5be0cd19}

// edgeSizes: none, few; those that leave just room, and just no room, for the byte 80 and the eight behind it; whole blocks and one beside.
var edgeSizes = []int{0, 1, 2, 3, 54, 55, 56, 57, 62, 63, 64, 65, 118, 119, 120, 121, 127, 128, 129, 183, 184, 8191, 8192, 8193}

func unhex(t *testing.T, s string) []byte {
	t.Helper()
	b, err := hex.DecodeString(strings.ReplaceAll(s, " ", ""))
	if err != nil {
		t.Fatal(err)
	}
	return b
}

// some bytes, the same ones for the same size and seed.
func some(size int, seed int64) []byte {
	b := make([]byte, size)
	rand.New(rand.NewSource(seed)).Read(b)
	return b
}

func wantSum(t *testing.T, b []byte, want [32]byte) {
	t.Helper()
	if x, e := sha.Sum(b); x != want || e != api.OK {
		t.Errorf("Sum of %d bytes: %x, %d, not %x", len(b), x, e, want)
	}
}

// P2.1: the chapter's examples.
func TestSumExamples(t *testing.T) {
	for _, c := range []struct{ b, want string }{
		{"", "e3b0c442 98fc1c14 9afbf4c8 996fb924 27ae41e4 649b934c a495991b 7852b855"},
		{"abc", "ba7816bf 8f01cfea 414140de 5dae2223 b00361a3 96177a9c b410ff61 f20015ad"},
		{"abcdbcdecdefdefgefghfghighijhijkijkljklmklmnlmnomnopnopq", "248d6a61 d20638b8 e5c02693 0c3e6039 a33ce459 64ff2167 f6ecedd4 19db06c1"},
		{strings.Repeat("a", 1000000), "cdc76e5c 9914fb92 81a1c7e2 84d73e67 f1809a48 a497200e 046d39cc c7112cd0"},
	} {
		wantSum(t, []byte(c.b), [32]byte(unhex(t, c.want)))
	}
}

// P2.1, R4: no bytes, as nil and as an empty list with spare room.
func TestSumOfNone(t *testing.T) {
	want := [32]byte(unhex(t, "e3b0c442 98fc1c14 9afbf4c8 996fb924 27ae41e4 649b934c a495991b 7852b855"))
	wantSum(t, nil, want)
	wantSum(t, []byte{}, want)
	wantSum(t, []byte{1, 2, 3}[:0], want)
}

// P2.1: at every size up to some blocks, and at the edges, what the library's SHA-256 says.
func TestSumAgainstLibrary(t *testing.T) {
	for size := range 300 {
		b := some(size, int64(size))
		wantSum(t, b, sha256.Sum256(b))
	}
	for _, size := range edgeSizes {
		for _, fill := range []byte{0, 0x80, 0xff} {
			b := bytes.Repeat([]byte{fill}, size)
			wantSum(t, b, sha256.Sum256(b))
		}
	}
}

// P2.1: MaxBytes bytes and those just below it are summed up: what a size of more than 16 bits' worth tells is told.
func TestSumUpToMaxBytes(t *testing.T) {
	b := some(api.MaxBytes, 7)
	for _, size := range []int{api.MaxBytes, api.MaxBytes - 1, api.MaxBytes - 8, api.MaxBytes - 9, api.MaxBytes - 64, 65536, 65535} {
		wantSum(t, b[:size], sha256.Sum256(b[:size]))
	}
}

// P2.1, R2: more than MaxBytes bytes answer ErrLimit, and nothing beside it.
func TestSumAboveMaxBytes(t *testing.T) {
	for _, more := range []int{1, 2, 63, 64, api.MaxBytes, 9 * api.MaxBytes} {
		if x, e := sha.Sum(make([]byte, api.MaxBytes+more)); x != [32]byte{} || e != api.ErrLimit {
			t.Errorf("%d bytes more: %x, %d", more, x, e)
		}
	}
}

// P2.1, R4: the bytes that are handed in stay as they were, the spare room behind them too.
func TestSumLeavesBytes(t *testing.T) {
	for _, size := range append(edgeSizes, api.MaxBytes, api.MaxBytes+1) {
		all := some(size+200, 3)
		before := bytes.Clone(all)
		sha.Sum(all[:size])
		if !bytes.Equal(all, before) {
			t.Errorf("%d bytes, or the room behind them, were changed", size)
		}
	}
}

// R4, R5: what is told hangs on the bytes as they are at the call, not on their room, on a call before or on one beside.
func TestSumHangsOnBytesAlone(t *testing.T) {
	b := some(130, 11)
	first, _ := sha.Sum(b)
	wide := append(make([]byte, 0, 4096), b...)
	wantSum(t, wide, first)
	b[0] ^= 1
	wantSum(t, b, sha256.Sum256(b))
	sha.Sum(make([]byte, api.MaxBytes+1))
	b[0] ^= 1
	wantSum(t, b, first)
	var group sync.WaitGroup
	for range 8 {
		group.Go(func() {
			if x, e := sha.Sum(b); x != first || e != api.OK {
				t.Errorf("beside others: %x, %d", x, e)
			}
		})
	}
	group.Wait()
}

// libraryBlock: a state, a block further, by the library's SHA-256, whose state is put in and read out as it is kept.
func libraryBlock(t *testing.T, state [8]uint32, b [64]byte) [8]uint32 {
	t.Helper()
	kept := []byte("sha\x03")
	for _, w := range state {
		kept = binary.BigEndian.AppendUint32(kept, w)
	}
	kept = append(kept, make([]byte, 64+8)...)
	h := sha256.New()
	type keeper interface {
		MarshalBinary() ([]byte, error)
		UnmarshalBinary([]byte) error
	}
	k := h.(keeper)
	if err := k.UnmarshalBinary(kept); err != nil {
		t.Fatal(err)
	}
	h.Write(b[:])
	kept, err := k.MarshalBinary()
	if err != nil {
		t.Fatal(err)
	}
	for i := range state {
		state[i] = binary.BigEndian.Uint32(kept[4+4*i:])
	}
	return state
}

// P2.2: the block of the text abc, from the state H on, leads to the words of its sum.
func TestBlockOfAbc(t *testing.T) {
	var b [64]byte
	copy(b[:], "abc\x80")
	b[63] = 24
	want := [8]uint32{0xba7816bf, 0x8f01cfea, 0x414140de, 0x5dae2223, 0xb00361a3, 0x96177a9c, 0xb410ff61, 0xf20015ad}
	if got := sha.Block(startWords, b); got != want {
		t.Errorf("%08x", got)
	}
}

// P2.2: states and blocks of all kinds: all bits clear, all set, one set, any.
func TestBlockAgainstLibrary(t *testing.T) {
	check := func(state [8]uint32, b [64]byte) {
		t.Helper()
		keptState, keptBlock := state, b
		if got, want := sha.Block(state, b), libraryBlock(t, state, b); got != want {
			t.Errorf("Block(%08x, %x) = %08x, not %08x", state, b, got, want)
		}
		if state != keptState || b != keptBlock {
			t.Error("what was handed in was changed")
		}
	}
	full := [8]uint32{}
	for i := range full {
		full[i] = 1<<32 - 1
	}
	ones := [64]byte(bytes.Repeat([]byte{0xff}, 64))
	for _, state := range [][8]uint32{{}, full, startWords} {
		check(state, [64]byte{})
		check(state, ones)
	}
	for bit := range 512 {
		var b [64]byte
		b[bit/8] = 1 << (bit % 8)
		check(startWords, b)
	}
	for bit := range 256 {
		var state [8]uint32
		state[bit/32] = 1 << (bit % 32)
		check(state, [64]byte{})
	}
	source := rand.New(rand.NewSource(5))
	for range 300 {
		var state [8]uint32
		for i := range state {
			state[i] = source.Uint32()
		}
		check(state, [64]byte(some(64, source.Int63())))
	}
}

// blocksOf: the blocks of bytes, as the chapter's words say it.
func blocksOf(b []byte) []byte {
	all := append(bytes.Clone(b), 0x80)
	for (len(all)+8)%64 != 0 {
		all = append(all, 0)
	}
	return binary.BigEndian.AppendUint64(all, 8*uint64(len(b)))
}

func through(state [8]uint32, blocks []byte) [8]uint32 {
	for ; len(blocks) > 0; blocks = blocks[64:] {
		state = sha.Block(state, [64]byte(blocks))
	}
	return state
}

// P2.3: the blocks, gone through by Block from H on, in whatever pieces, lead to the words of the sum.
func TestSumIsWhereBlocksLead(t *testing.T) {
	for _, size := range edgeSizes {
		b := some(size, int64(size)+100)
		all := blocksOf(b)
		for cut := 0; cut <= len(all); cut += 64 * (1 + len(all)/640) {
			state := through(through(startWords, all[:cut]), all[cut:])
			var want [32]byte
			for i, w := range state {
				binary.BigEndian.PutUint32(want[4*i:], w)
			}
			wantSum(t, b, want)
		}
	}
}
