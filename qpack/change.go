package qpack

import "mailcoach/api"

// change of the entries by what the encoder says of the table, which may be told of so much room at most.
type change struct {
	entries
	most int
}

// instructions by their first bits.
func instructions() []row[*change] {
	return []row[*change]{
		{first: namedComes, bits: 7, do: (*change).named},
		{first: spelledComes, bits: 6, do: (*change).spelled},
		{first: roomIs, bits: 5, do: (*change).roomIs},
		{first: comesAgain, bits: 5, do: (*change).again},
	}
}

// named: a field comes whose name is another one's.
func (c *change) named(r *reader) api.Errno {
	above, at := r.number(6)
	value := r.text(8)
	if r.e != api.OK {
		return r.e
	}
	f, ok := c.behind(at)
	if above&fixedComes != 0 {
		f, ok = fixed(at)
	}
	if !ok {
		return api.ErrForm
	}
	return c.table.Add(api.Field{Name: f.Name, Value: value})
}

// spelled: a field comes whose name is told.
func (c *change) spelled(r *reader) api.Errno {
	f := api.Field{Name: r.text(6), Value: r.text(8)}
	if r.e != api.OK {
		return r.e
	}
	return c.table.Add(f)
}

// roomIs: the table has room for so many bytes.
func (c *change) roomIs(r *reader) api.Errno {
	_, n := r.number(5)
	if r.e != api.OK {
		return r.e
	}
	if n > uint64(c.most) {
		return api.ErrLimit
	}
	c.room = int(n)
	return c.table.Room(c.room)
}

// again: an entry comes once more.
func (c *change) again(r *reader) api.Errno {
	_, at := r.number(5)
	if r.e != api.OK {
		return r.e
	}
	f, ok := c.behind(at)
	if !ok {
		return api.ErrForm
	}
	return c.table.Add(f)
}

// behind: the entry that is so many behind the last one. Below 0 its number wraps round, far above all that came.
func (c *change) behind(at uint64) (api.Field, bool) {
	return c.get(c.came() - 1 - at)
}
