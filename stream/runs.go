package stream

import (
	"slices"
	"sort"
)

// run of places of a stream, one behind the other; the last one is ahead of to. The zero run is none.
type run struct{ from, to uint64 }

// ahead: does a run end ahead of another one, or just there?
func (a run) ahead(b run) bool { return a.to <= b.from }

// apart: likewise, with a gap between them.
func (a run) apart(b run) bool { return a.to < b.from }

// runs that rise, none of them empty, with a gap between each two: so one set of places has one form.
type runs []run

// first of them; the zero run, if there is none.
func (l runs) first() run {
	if len(l) == 0 {
		return run{}
	}
	return l[0]
}

// near: from which one on, and up to which, they lie neither ahead of a run nor behind it; before says which of two lies ahead.
func (l runs) near(r run, before func(a, b run) bool) (from, to int) {
	from = sort.Search(len(l), func(i int) bool { return !before(l[i], r) })
	rest := l[from:]
	return from, from + sort.Search(len(rest), func(i int) bool { return before(r, rest[i]) })
}

// add: the places of a run too. The list that was there is not to be used any more.
func (l runs) add(r run) runs {
	if r.from == r.to {
		return l
	}
	i, j := l.near(r, run.apart)
	if i < j {
		r = run{min(r.from, l[i].from), max(r.to, l[j-1].to)}
	}
	return slices.Replace(l, i, j, r)
}

// cut: the places but those of a run. The list that was there is not to be used any more.
func (l runs) cut(r run) runs {
	i, j := l.near(r, run.ahead)
	if i == j {
		return l
	}
	var stay runs
	stay = stay.add(run{min(l[i].from, r.from), r.from})
	stay = stay.add(run{r.to, max(l[j-1].to, r.to)})
	if i == 0 && len(stay) == 0 { // what is taken is the first of many most times: the others need not move up
		return l[j:]
	}
	return slices.Replace(l, i, j, stay...)
}

// each: changed by each of some runs, one behind the other.
func (l runs) each(change func(runs, run) runs, by runs) runs {
	for _, r := range by {
		l = change(l, r)
	}
	return l
}

// missing: the places of a run that are not among these.
func (l runs) missing(r run) runs {
	i, j := l.near(r, run.ahead)
	return runs(nil).add(r).each(runs.cut, l[i:j])
}
