package ranges_test

import (
	"math/rand"

	"mailcoach/api"
)

// window: some numbers that stand one behind the other, the first of them base, and for each whether a set has it.
type window struct {
	base uint64
	has  []bool
}

// list: the ranges of a window's set, each as long as can be; it may have more of them than a set may.
func (w window) list() (l []api.Range) {
	for i, has := range w.has {
		n := w.base + uint64(i)
		switch {
		case has && i > 0 && w.has[i-1]:
			l[len(l)-1].To = n
		case has:
			l = append(l, api.Range{From: n, To: n})
		}
	}
	return l
}

// of: a window as great, whose numbers are those that two windows' numbers say.
func (w window) of(v window, rule func(a, b bool) bool) window {
	out := window{w.base, make([]bool, len(w.has))}
	for i := range w.has {
		out.has[i] = rule(w.has[i], v.has[i])
	}
	return out
}

// only: a window as great that has the numbers at the places from to to.
func (w window) only(from, to int) window {
	out := window{w.base, make([]bool, len(w.has))}
	for i := from; i <= to; i++ {
		out.has[i] = true
	}
	return out
}

func either(a, b bool) bool  { return a || b }
func without(a, b bool) bool { return a && !b }
func both(a, b bool) bool    { return a && b }

// plainAnswer: the list of what should be answered, and the error.
func plainAnswer(w window) ([]api.Range, api.Errno) {
	l := w.list()
	if len(l) > api.MaxRanges {
		return nil, api.ErrFull
	}
	return l, api.OK
}

// plainCheck: does a list tell a set, as the chapter's words say it, for numbers of which each is at most 1000 or above MaxNumber?
func plainCheck(l []api.Range) bool {
	if len(l) > 64 {
		return false
	}
	for _, r := range l {
		if r.From > r.To || r.To > 1<<62-1 {
			return false
		}
	}
	for i := 1; i < len(l); i++ {
		between := false
		for n := range uint64(1000) {
			between = between || n > l[i-1].To && n < l[i].From
		}
		if !between {
			return false
		}
	}
	return true
}

// bitsWindow: a window whose numbers are a number's bits.
func bitsWindow(base uint64, bits, size int) window {
	w := window{base, make([]bool, size)}
	for i := range w.has {
		w.has[i] = bits>>i&1 == 1
	}
	return w
}

// someWindow: a window whose set has at most MaxRanges ranges, of up to long numbers each, with up to wide numbers between two.
func someWindow(r *rand.Rand, base uint64, size, long, wide int) window {
	w := window{base, make([]bool, size)}
	i := r.Intn(1 + wide)
	for range api.MaxRanges {
		for range 1 + r.Intn(long) {
			if i < size {
				w.has[i] = true
				i++
			}
		}
		i += 1 + r.Intn(wide)
	}
	return w
}
