package qpack

import "mailcoach/api"

// beginning of a section: how many entries must have come, and the base.
func (d *Decoder) beginning(r *reader) (number, base uint64, ok bool) {
	_, told := r.number(8)
	less, n := r.number(7)
	if r.e != api.OK {
		return 0, 0, false
	}
	number, ok = d.mustHaveCome(told)
	if !ok {
		return 0, 0, false
	}
	if less == 0 {
		return number, number + n, true
	}
	if n >= number {
		return 0, 0, false
	}
	return number, number - n - 1, true
}

// mustHaveCome: the number of entries that must have come, of what a section tells of it: its place in a round. Half a round reaches as far as it may be away from the number that came.
func (d *Decoder) mustHaveCome(told uint64) (uint64, bool) {
	if told == 0 {
		return 0, true
	}
	f := round(d.room)
	if told > f {
		return 0, false
	}
	m := d.entries.came() + f/2
	q := m/f*f + told - 1
	if q > m {
		if q <= f {
			return 0, false
		}
		q -= f
	}
	return q, q != 0
}

// fields of a section whose lines are read.
type fields struct {
	entries
	number, base uint64
	list         []api.Field
	many, bytes  int // of all of them; those that are too many are not kept
}

// lines by their first bits.
func lines() []row[*fields] {
	return []row[*fields]{
		{first: whole, bits: 7, do: (*fields).whole},
		{first: named, bits: 6, do: (*fields).named},
		{first: spelled, bits: 5, do: (*fields).spelled},
		{first: wholeAhead, bits: 4, do: (*fields).wholeAhead},
		{first: namedAhead, bits: 4, do: (*fields).namedAhead},
	}
}

// whole: a fixed field, or an entry behind the base.
func (x *fields) whole(r *reader) api.Errno {
	above, at := r.number(6)
	if r.e != api.OK {
		return r.e
	}
	return x.take(x.found(above&fixedWhole != 0, at))
}

// wholeAhead: an entry from the base on.
func (x *fields) wholeAhead(r *reader) api.Errno {
	_, at := r.number(4)
	if r.e != api.OK {
		return r.e
	}
	return x.take(x.entry(x.base + at))
}

// named: a field whose name is that of a fixed one, or of an entry behind the base.
func (x *fields) named(r *reader) api.Errno {
	above, at := r.number(4)
	value := r.text(8)
	if r.e != api.OK {
		return r.e
	}
	f, ok := x.found(above&fixedNamed != 0, at)
	return x.take(api.Field{Name: f.Name, Value: value}, ok)
}

// namedAhead: a field whose name is that of an entry from the base on.
func (x *fields) namedAhead(r *reader) api.Errno {
	_, at := r.number(3)
	value := r.text(8)
	if r.e != api.OK {
		return r.e
	}
	f, ok := x.entry(x.base + at)
	return x.take(api.Field{Name: f.Name, Value: value}, ok)
}

// spelled: a field whose name is told.
func (x *fields) spelled(r *reader) api.Errno {
	f := api.Field{Name: r.text(4), Value: r.text(8)}
	if r.e != api.OK {
		return r.e
	}
	return x.take(f, true)
}

// found: the fixed field at a place, or the entry that is so far behind the base. Below 0 its number wraps round, far above all that came.
func (x *fields) found(isFixed bool, at uint64) (api.Field, bool) {
	if isFixed {
		return fixed(at)
	}
	return x.entry(x.base - 1 - at)
}

// entry: the n-th one, if it is there and the section may need it.
func (x *fields) entry(n uint64) (api.Field, bool) {
	if n >= x.number {
		return api.Field{}, false
	}
	return x.get(n)
}

// take a field, if there is one.
func (x *fields) take(f api.Field, ok bool) api.Errno {
	if !ok {
		return api.ErrForm
	}
	x.many++
	x.bytes += len(f.Name) + len(f.Value)
	if x.many <= api.MaxFields && x.bytes <= api.MaxText {
		x.list = append(x.list, f)
	}
	return api.OK
}
