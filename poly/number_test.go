package poly

import (
	"math/big"
	"math/rand"
	"testing"
)

// prime is 2^130 - 5.
var prime = new(big.Int).Sub(new(big.Int).Lsh(big.NewInt(1), 130), big.NewInt(5))

// valueOf: a number as one of any size; its words may hold more than 26 bits.
func valueOf(n number) *big.Int {
	value := new(big.Int)
	for i := len(n) - 1; i >= 0; i-- {
		value.Lsh(value, 26)
		value.Add(value, new(big.Int).SetUint64(n[i]))
	}
	return value
}

func sameByPrime(a, b *big.Int) bool {
	return new(big.Int).Mod(new(big.Int).Sub(a, b), prime).Sign() == 0
}

func isCarried(n number) bool {
	for _, word := range n {
		if word >= 1<<26 {
			return false
		}
	}
	return true
}

// edgeNumbers: numbers, carried on, whose words are at their edges.
func edgeNumbers() (list []number) {
	words := []uint64{0, 1, 4, 5, 1<<26 - 6, 1<<26 - 5, 1<<26 - 1}
	for _, low := range words {
		for _, middle := range words {
			for _, high := range []uint64{0, 1, 1<<24 - 1, 1 << 24, 1<<26 - 1} {
				list = append(list, number{low, middle, middle, middle, high}, number{low, low, middle, high, high})
			}
		}
	}
	return list
}

// Words of any size up to 2^60 are carried on to words of 26 bits; the number leaves as much by 2^130 - 5.
func TestCarried(t *testing.T) {
	check := func(n number) {
		t.Helper()
		if c := carried(n); !isCarried(c) || !sameByPrime(valueOf(c), valueOf(n)) {
			t.Errorf("%x is carried on to %x", n, c)
		}
	}
	random := rand.New(rand.NewSource(1))
	for range 10000 {
		var n number
		for i := range n {
			n[i] = random.Uint64() >> (4 + random.Intn(60))
		}
		check(n)
	}
	for _, n := range edgeNumbers() {
		if carried(n) != n {
			t.Errorf("%x was carried on already", n)
		}
		for i := range n {
			more := n
			more[i] += 1 << 26
			check(more)
			more[i] += 1 << 59
			check(more)
		}
	}
}

// Sums and products leave by 2^130 - 5 what they leave of numbers of any size; both of the numbers at the edges, too.
func TestSumAndProduct(t *testing.T) {
	numbers := edgeNumbers()
	for i, a := range numbers {
		for _, b := range numbers[i:] {
			if c := sum(a, b); !isCarried(c) || !sameByPrime(valueOf(c), new(big.Int).Add(valueOf(a), valueOf(b))) {
				t.Fatalf("%x and %x: %x", a, b, c)
			}
			if c := product(a, b); !isCarried(c) || !sameByPrime(valueOf(c), new(big.Int).Mul(valueOf(a), valueOf(b))) {
				t.Fatalf("%x times %x: %x", a, b, c)
			}
		}
	}
}

// What is left by 2^130 - 5 is below it; numbers below it are left as they are.
func TestLeast(t *testing.T) {
	for _, n := range edgeNumbers() {
		if m := valueOf(least(n)); m.Cmp(new(big.Int).Mod(valueOf(n), prime)) != 0 {
			t.Errorf("%x leaves %x", n, m)
		}
	}
	const full = 1<<26 - 1
	for x := range uint64(8) {
		n := number{full - x, full, full, full, full}
		want := n
		if x < 5 {
			want = number{4 - x}
		}
		if m := least(n); m != want {
			t.Errorf("%x leaves %x", n, m)
		}
	}
}

// The bytes of a number are those that it is the number of.
func TestNumberOfBytes(t *testing.T) {
	for bit := range 128 {
		var b [16]byte
		b[bit/8] = 1 << (bit % 8)
		n := numberOf(b[:])
		if valueOf(n).Cmp(new(big.Int).Lsh(big.NewInt(1), uint(bit))) != 0 || bytesOf(n) != b {
			t.Errorf("%x: %x, %x", b, n, bytesOf(n))
		}
	}
	random := rand.New(rand.NewSource(2))
	for range 1000 {
		var b [16]byte
		random.Read(b[:])
		if n := numberOf(b[:]); bytesOf(n) != b || !isCarried(n) {
			t.Errorf("%x: %x", b, bytesOf(n))
		}
	}
}

// Parts are told in order, each with its mark behind; of no bytes there is none.
func TestParts(t *testing.T) {
	b := make([]byte, 100)
	for i := range b {
		b[i] = byte(i + 1)
	}
	for size := range len(b) + 1 {
		at := 0
		for part := range parts(b[:size]) {
			length := min(16, size-at)
			want := new(big.Int).Lsh(big.NewInt(1), uint(8*length))
			for i, x := range b[at : at+length] {
				want.Add(want, new(big.Int).Lsh(big.NewInt(int64(x)), uint(8*i)))
			}
			if valueOf(part).Cmp(want) != 0 {
				t.Errorf("%d bytes: the part at %d is %x", size, at, part)
			}
			at += length
		}
		if at != size {
			t.Errorf("%d bytes: parts of %d", size, at)
		}
	}
}

// A loop over the parts may be left at each of them.
func TestPartsLeftEarly(t *testing.T) {
	for leave := 1; leave <= 4; leave++ {
		seen := 0
		for range parts(make([]byte, 49)) {
			seen++
			if seen == leave {
				break
			}
		}
		if seen != leave {
			t.Errorf("left at part %d: %d seen", leave, seen)
		}
	}
}
