package conn

import (
	"slices"
	"sort"

	"mailcoach/api"
)

// numbers of packets that came, as ranges that rise with a gap between each two. There may be more of them than a set of layer 8 has: what is lost on the way leaves a gap for ever, and a packet that comes late must not be taken for one that came twice.
type numbers []api.Range

// near: the first range that does not end ahead of a number, nor just there.
func (l numbers) near(n uint64) int {
	return sort.Search(len(l), func(i int) bool { return l[i].To+1 >= n })
}

// has: did it come?
func (l numbers) has(n uint64) bool {
	i := l.near(n)
	return i < len(l) && l[i].From <= n && n <= l[i].To
}

// with: one more number, which did not come ahead. The list that was there is not to be used any more.
func (l numbers) with(n uint64) numbers {
	r := api.Range{From: n, To: n}
	i := l.near(n)
	j := i
	if j < len(l) && l[j].To+1 == n {
		r.From = l[j].From
		j++
	}
	if j < len(l) && l[j].From == n+1 {
		r.To = l[j].To
		j++
	}
	return slices.Replace(l, i, j, r)
}

// greatest of them; below 0, if there is none.
func (l numbers) greatest() int64 {
	if len(l) == 0 {
		return -1
	}
	return int64(l[len(l)-1].To)
}

// told: as many of the last ranges as a frame may have.
func (l numbers) told() []api.Range {
	return slices.Clone(l[max(0, len(l)-api.MaxRanges):])
}
