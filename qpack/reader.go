package qpack

import (
	"slices"

	"mailcoach/api"
	"mailcoach/text"
	"mailcoach/varint"
)

// The first bits of what the encoder says of the table.
const (
	namedComes   = 0x80 // with the bit fixedComes, if the name is a fixed field's
	fixedComes   = 0x40
	spelledComes = 0x40
	roomIs       = 0x20
	comesAgain   = 0x00
)

// The first bits of a section's lines.
const (
	whole      = 0x80 // with the bit fixedWhole, if it is a fixed field
	fixedWhole = 0x40
	wholeAhead = 0x10 // an entry at the base or ahead of it, which is told from there on
	named      = 0x40 // with the bit fixedNamed, if the name is a fixed field's
	fixedNamed = 0x10
	namedAhead = 0x00
	spelled    = 0x20
)

// The first bits of what the decoder says.
const (
	sectionGot   = 0x80
	notLookedAt  = 0x40
	moreHaveCome = 0x00
)

// reader of bytes, from at on. Behind something that may not be read (e tells why), nothing is.
type reader struct {
	b  []byte
	at int
	e  api.Errno
}

// number: that in so many bits of a byte, and what stands above it.
func (r *reader) number(bits int) (byte, uint64) {
	if r.e != api.OK {
		return 0, 0
	}
	above, n, size, e := varint.GetPrefix(bits, r.b[r.at:])
	r.pass(size, e)
	return above, n
}

// text of so many bits of a byte.
func (r *reader) text(bits int) string {
	if r.e != api.OK {
		return ""
	}
	_, s, size, e := text.Get(bits, r.b[r.at:])
	r.pass(size, e)
	return s
}

// pass by what was read. What is above its limit may not be, so that only what ends too early is told otherwise.
func (r *reader) pass(size int, e api.Errno) {
	r.at += size
	r.e = e
	if e != api.OK && e != api.ErrShort {
		r.e = api.ErrForm
	}
}

// row of a table of first bits: what begins with first, but for so many lowest bits, is done so.
type row[T any] struct {
	first byte
	bits  int
	do    func(T, *reader) api.Errno
}

// follow: what bytes tell is done by the rows, one behind the other: how many bytes that were, up to what may not be done.
func follow[T any](rows []row[T], what T, b []byte) (int, api.Errno) {
	done := 0
	for done < len(b) {
		r := reader{b: b, at: done}
		if e := rowOf(rows, b[done]).do(what, &r); e != api.OK {
			return done, e
		}
		done = r.at
	}
	return done, api.OK
}

// rowOf: the row of what begins with that byte. Each byte has one, as the rows tell all first bits that there are.
func rowOf[T any](rows []row[T], b byte) row[T] {
	return rows[slices.IndexFunc(rows, func(x row[T]) bool { return b>>x.bits == x.first>>x.bits })]
}

// laid: a number in the lowest bits of a byte, behind what stands above. All numbers that are told here may be.
func laid(first byte, bits int, n uint64) []byte {
	b, _ := varint.PutPrefix(first, bits, n)
	return b
}

// laidText: a text likewise.
func laidText(first byte, bits int, s string) []byte {
	b, _ := text.Put(first, bits, s)
	return b
}
