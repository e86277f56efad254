package stream

import (
	"slices"
	"testing"
)

const small = 8 // places of the sets that are all gone through

// has: is a place in a set that is told by bits?
func has(set int, place uint64) bool { return set>>place&1 == 1 }

// runsOf: the runs of a set that is told by bits, place by place.
func runsOf(set int) (l runs) {
	for at := range uint64(small) {
		switch {
		case !has(set, at):
		case at > 0 && has(set, at-1):
			l[len(l)-1].to++
		default:
			l = append(l, run{at, at + 1})
		}
	}
	return l
}

// bitsOf: the set of a run.
func bitsOf(r run) (set int) {
	for at := r.from; at < r.to; at++ {
		set |= 1 << at
	}
	return set
}

// P16.3, P16.4: all runs of few places, empty ones too, against all sets of them.
func TestRuns(t *testing.T) {
	for set := range 1 << small {
		for from := range uint64(small + 1) {
			for to := from; to <= small; to++ {
				r := run{from, to}
				if l := runsOf(set).add(r); !slices.Equal(l, runsOf(set|bitsOf(r))) {
					t.Errorf("%v and %v: %v", runsOf(set), r, l)
				}
				if l := runsOf(set).cut(r); !slices.Equal(l, runsOf(set&^bitsOf(r))) {
					t.Errorf("%v but %v: %v", runsOf(set), r, l)
				}
				l := runsOf(set)
				if m := l.missing(r); !slices.Equal(m, runsOf(bitsOf(r)&^set)) {
					t.Errorf("of %v, %v lacks %v", r, l, m)
				}
				if !slices.Equal(l, runsOf(set)) {
					t.Errorf("%v was changed", l)
				}
			}
		}
	}
}

// P16.3: the first run, which is none of none.
func TestFirst(t *testing.T) {
	if r := runs(nil).first(); r != (run{}) {
		t.Error(r)
	}
	if r := (runs{{3, 5}, {7, 8}}).first(); r != (run{3, 5}) {
		t.Error(r)
	}
}

// P16.4: a list that is changed by several runs, in their order.
func TestEach(t *testing.T) {
	if l := (runs{{0, 9}}).each(runs.cut, runs{{1, 2}, {4, 6}, {8, 9}}); !slices.Equal(l, runs{{0, 1}, {2, 4}, {6, 8}}) {
		t.Error(l)
	}
	if l := (runs{{3, 5}}).each(runs.add, runs{{0, 1}, {5, 7}}); !slices.Equal(l, runs{{0, 1}, {3, 7}}) {
		t.Error(l)
	}
	if l := (runs{{3, 5}}).each(runs.add, nil); !slices.Equal(l, runs{{3, 5}}) {
		t.Error(l)
	}
}
