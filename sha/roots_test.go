package sha

import (
	"math/big"
	"testing"
)

// printedK and printedH are the words as the document prints them.
var printedK = [64]uint32{
	0x428a2f98, 0x71374491, 0xb5c0fbcf, 0xe9b5dba5, 0x3956c25b, 0x59f111f1, 0x923f82a4, 0xab1c5ed5,
	0xd807aa98, 0x12835b01, 0x243185be, 0x550c7dc3, 0x72be5d74, 0x80deb1fe, 0x9bdc06a7, 0xc19bf174,
	0xe49b69c1, 0xefbe4786, 0x0fc19dc6, 0x240ca1cc, 0x2de92c6f, 0x4a7484aa, 0x5cb0a9dc, 0x76f988da,
	0x983e5152, 0xa831c66d, 0xb00327c8, 0xbf597fc7, 0xc6e00bf3, 0xd5a79147, 0x06ca6351, 0x14292967,
	0x27b70a85, 0x2e1b2138, 0x4d2c6dfc, 0x53380d13, 0x650a7354, 0x766a0abb, 0x81c2c92e, 0x92722c85,
	0xa2bfe8a1, 0xa81a664b, 0xc24b8b70, 0xc76c51a3, 0xd192e819, 0xd6990624, 0xf40e3585, 0x106aa070,
	0x19a4c116, 0x1e376c08, 0x2748774c, 0x34b0bcb5, 0x391c0cb3, 0x4ed8aa4a, 0x5b9cca4f, 0x682e6ff3,
	0x748f82ee, 0x78a5636f, 0x84c87814, 0x8cc70208, 0x90befffa, 0xa4506ceb, 0xbef9a3f7, 0xc67178f2,
}

var printedH = [8]uint32{0x6a09e667, 0xbb67ae85, 0x3c6ef372, 0xa54ff53a, 0x510e527f, 0x9b05688c, 0x1f83d9ab, 0x5be0cd19}

// P2.1, P2.2: the words K and H are those that the document prints.
func TestWordsAsPrinted(t *testing.T) {
	if k := cubeWords(); k != printedK {
		t.Errorf("K: %08x", k)
	}
	if h := squareWords(); h != printedH {
		t.Errorf("H: %08x", h)
	}
}

func TestPrimes(t *testing.T) {
	found := primes()
	if found[0] != 2 || found[1] != 3 || found[2] != 5 || found[7] != 19 || found[63] != 311 {
		t.Errorf("the ends are other ones: %d", found)
	}
	i := 0
	for n := range int64(312) {
		if !big.NewInt(n).ProbablyPrime(0) {
			continue
		}
		if i == len(found) || found[i] != uint64(n) {
			t.Fatalf("the prime %d is not at %d: %d", n, i, found)
		}
		i++
	}
	if i != len(found) {
		t.Errorf("%d primes, not %d", len(found), i)
	}
}

// Each number below aboveRoots can be found, both ends too.
func TestGreatest(t *testing.T) {
	for _, want := range []uint64{0, 1, 2, 3, 1<<32 - 1, 1 << 32, 1<<32 + 1, 6<<32 + 12345, aboveRoots - 2, aboveRoots - 1} {
		if got := greatest(func(x uint64) bool { return x > want }); got != want {
			t.Errorf("%d, not %d", got, want)
		}
	}
}

func TestCubeAgainstBig(t *testing.T) {
	for _, x := range []uint64{0, 1, 2, 1<<21 + 1, 1<<32 - 1, 1 << 32, 1<<32 + 1, 7<<32 - 1, aboveRoots - 1, aboveRoots} {
		high, low := cube(x)
		got := new(big.Int).Lsh(new(big.Int).SetUint64(high), 64)
		got.Or(got, new(big.Int).SetUint64(low))
		want := new(big.Int).Exp(new(big.Int).SetUint64(x), big.NewInt(3), nil)
		if got.Cmp(want) != 0 {
			t.Errorf("the cube of %d: %d, not %d", x, got, want)
		}
	}
}

func TestIsAbove(t *testing.T) {
	for _, c := range []struct {
		high, low, n uint64
		want         bool
	}{{5, 0, 5, false}, {5, 1, 5, true}, {6, 0, 5, true}, {4, 1<<64 - 1, 5, false}, {0, 0, 0, false}} {
		if got := isAbove(c.high, c.low, c.n); got != c.want {
			t.Errorf("%d, %d above %d: %v", c.high, c.low, c.n, got)
		}
	}
}

// A loop over the blocks may be left at each of them.
func TestBlocksLeftEarly(t *testing.T) {
	for _, size := range []int{0, 55, 56, 63, 64, 128, 183, 184} {
		all := 0
		for range blocks(make([]byte, size)) {
			all++
		}
		if want := (size + 1 + lengthSize + blockSize - 1) / blockSize; all != want {
			t.Errorf("%d bytes: %d blocks, not %d", size, all, want)
		}
		for leave := 1; leave <= all; leave++ {
			seen := 0
			for range blocks(make([]byte, size)) {
				seen++
				if seen == leave {
					break
				}
			}
			if seen != leave {
				t.Errorf("%d bytes, left at block %d: %d seen", size, leave, seen)
			}
		}
	}
}
