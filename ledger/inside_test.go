package ledger

import (
	"math"
	"testing"
)

// P15.3: what is between two numbers is as much from both sides, for numbers of any type.
func TestBetween(t *testing.T) {
	type hours int16
	if between(3, 10) != 7 || between(10, 3) != 7 || between(-4, 3) != 7 || between(5, 5) != 0 {
		t.Error("of int")
	}
	if between[uint64](0, math.MaxUint64) != math.MaxUint64 || between[uint64](math.MaxUint64, 0) != math.MaxUint64 {
		t.Error("of uint64")
	}
	if between[uint8](250, 5) != 245 || between(hours(2), hours(-2)) != 4 {
		t.Error("of others")
	}
}

// P15.3, P15.4: what goes through packets takes out what it is told to; if it is left ahead of the end, the rest stays, in order.
func TestTakeOut(t *testing.T) {
	for leave := range 6 {
		l := New()
		for n := range uint64(9) {
			l.put(packet{number: n, size: 1 << n, asks: true})
		}
		var out []uint64
		for p := range l.takeOut(7, func(p packet) bool { return p.number%2 == 0 }) {
			out = append(out, p.number)
			if len(out) == leave {
				break
			}
		}
		gone := min(leave, 4) // 0, 2, 4 and 6 may go
		if leave == 0 {
			gone = 4
		}
		if len(out) != gone || len(l.away) != 9-gone {
			t.Errorf("left at %d: %v went, %v stay", leave, out, numbers(l.away))
		}
		sum, above := 0, -1
		for _, p := range l.away {
			if int(p.number) <= above || p.number%2 == 0 && int(p.number) < 2*gone {
				t.Errorf("left at %d: %v stay", leave, numbers(l.away))
			}
			sum, above = sum+p.size, int(p.number)
		}
		if sum != l.asking {
			t.Errorf("left at %d: %d bytes that ask; want %d", leave, l.asking, sum)
		}
	}
}
