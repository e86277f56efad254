package qpack

import (
	"math"

	"mailcoach/api"
	"mailcoach/table"
)

// beside: the bytes that a field's size has beside those of its texts, and so the least that an entry has.
const beside = 32

// entries: the fields that came, by their numbers. Those ahead of the ones that the table counts came too, and went.
type entries struct {
	table *table.Table
	room  int
	ahead uint64
}

// twin: entries of their own, which stay as they are when these are changed.
func (x *entries) twin() entries {
	y := entries{room: x.room, ahead: x.gone()}
	y.table, _ = table.New(x.room)
	for n := x.gone(); n < x.came(); n++ {
		f, _ := x.get(n)
		y.table.Add(f)
	}
	return y
}

// came: how many came; gone: how many of them went.
func (x *entries) came() uint64 { return x.ahead + x.table.Came() }

func (x *entries) gone() uint64 { return x.ahead + x.table.Gone() }

// get: the n-th entry, if it is there. One ahead of the table's own wraps round, far above all that came.
func (x *entries) get(n uint64) (api.Field, bool) {
	f, e := x.table.Get(n - x.ahead)
	return f, e == api.OK
}

// last: the last entry ahead of end that is so.
func (x *entries) last(end uint64, isSo func(api.Field) bool) (uint64, bool) {
	for n := end; n > x.gone(); n-- {
		if f, _ := x.get(n - 1); isSo(f) {
			return n - 1, true
		}
	}
	return 0, false
}

// fits: is there room for a field, if none but entries ahead of stay go?
func (x *entries) fits(f api.Field, stay uint64) bool {
	room := x.room - x.table.Size()
	for n := x.gone(); n < stay && room < size(f); n++ {
		g, _ := x.get(n)
		room += size(g)
	}
	return room >= size(f)
}

// size: a field's size.
func size(f api.Field) int { return len(f.Name) + len(f.Value) + beside }

// round: how many numbers of entries can be told apart in a section's beginning, where the table is made with so much room.
func round(room int) uint64 { return 2 * uint64(room/beside) }

// tooMuch: are these more fields, or longer ones, than a section may have?
func tooMuch(l []api.Field) bool {
	bytes := 0
	for _, f := range l {
		bytes += len(f.Name) + len(f.Value)
	}
	return len(l) > api.MaxFields || bytes > api.MaxText
}

// mayBeWaits: may so many streams wait?
func mayBeWaits(n int) bool { return n >= 0 && n <= api.MaxStreams }

// fixed: the fixed field at a place, if there is one.
func fixed(n uint64) (api.Field, bool) {
	if n > math.MaxInt32 { // which no int may be able to hold
		return api.Field{}, false
	}
	return table.Fixed(int(n))
}
