package sha

import "math/bits"

// aboveRoots is above the roots that are looked for: those of 311 and below, with 32 bits behind the point. Its cube fits into 128 bits.
const aboveRoots = 1 << 35

// cubeWords: the words K, the first 32 bits behind the point of the primes' cube roots.
func cubeWords() [64]uint32 {
	var k [64]uint32
	for i, p := range primes() {
		k[i] = uint32(greatest(func(x uint64) bool {
			high, low := cube(x)
			return isAbove(high, low, p<<32)
		}))
	}
	return k
}

// squareWords: the words H, the first 32 bits behind the point of the first primes' square roots.
func squareWords() [8]uint32 {
	var h [8]uint32
	found := primes()
	for i := range h {
		h[i] = uint32(greatest(func(x uint64) bool {
			high, low := bits.Mul64(x, x)
			return isAbove(high, low, found[i])
		}))
	}
	return h
}

// greatest: the greatest number that is not too great, found by halving. 0 is not; from some number below aboveRoots on all are.
func greatest(tooGreat func(x uint64) bool) uint64 {
	from, to := uint64(0), uint64(aboveRoots) // from isn't too great, to is
	for to-from > 1 {
		middle := from + (to-from)/2
		if tooGreat(middle) {
			to = middle
		} else {
			from = middle
		}
	}
	return from
}

// cube: a number's cube, its higher and its lower 64 bits; of numbers up to aboveRoots.
func cube(x uint64) (uint64, uint64) {
	high, low := bits.Mul64(x, x)
	carry, lowest := bits.Mul64(low, x)
	return high*x + carry, lowest
}

// isAbove: is the number of 128 bits above n with 64 bits 0 behind it?
func isAbove(high, low, n uint64) bool {
	return high > n || high == n && low > 0
}

// primes: the first 64 primes.
func primes() [64]uint64 {
	var found [64]uint64
	count := 0
candidates:
	for n := uint64(2); count < len(found); n++ {
		for _, p := range found[:count] {
			if n%p == 0 {
				continue candidates
			}
		}
		found[count] = n
		count++
	}
	return found
}
