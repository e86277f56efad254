package qpack_test

import (
	"fmt"
	"maps"
	"slices"
	"strings"

	"mailcoach/api"
	"mailcoach/table"
	"mailcoach/text"
	"mailcoach/varint"
)

// The chapter's words once more, with all entries kept that ever came, and first bits as texts of 0 and 1, to hold the package's answers against.

// plainReader reads bytes; e is ErrShort where they end too early, else ErrForm where they may not be.
type plainReader struct {
	b []byte
	e api.Errno
}

// bits of the byte that is next.
func (r *plainReader) bits() string {
	if len(r.b) == 0 {
		r.e = api.ErrShort
		return "00000000"
	}
	return fmt.Sprintf("%08b", r.b[0])
}

func (r *plainReader) number(bits int) uint64 {
	if r.e != api.OK {
		return 0
	}
	_, n, size, e := varint.GetPrefix(bits, r.b)
	r.past(size, e)
	return n
}

func (r *plainReader) text(bits int) string {
	if r.e != api.OK {
		return ""
	}
	_, s, size, e := text.Get(bits, r.b)
	r.past(size, e)
	return s
}

func (r *plainReader) past(size int, e api.Errno) {
	switch e {
	case api.OK, api.ErrShort:
		r.e = e
	default:
		r.e = api.ErrForm
	}
	r.b = r.b[size:]
}

// plain: a decoder by the chapter's words.
type plain struct {
	most, waits int
	room        int
	all         []api.Field // all entries that ever came
	gone        int         // how many of them went
	waiting     map[uint64]int
	say         []byte
	told        int
}

func newPlain(room, waits int) *plain {
	return &plain{most: room, waits: waits, waiting: map[uint64]int{}}
}

// plainSize of a field.
func plainSize(f api.Field) int { return len(f.Name) + len(f.Value) + 32 }

// shrink: the eldest go, until the others have room.
func (p *plain) shrink(room int) {
	for sizes(p.all[p.gone:]) > room {
		p.gone++
	}
}

func sizes(l []api.Field) (n int) {
	for _, f := range l {
		n += plainSize(f)
	}
	return n
}

// entry: one that is there.
func (p *plain) entry(n int) (api.Field, bool) {
	if n < p.gone || n >= len(p.all) {
		return api.Field{}, false
	}
	return p.all[n], true
}

// comes: a field comes.
func (p *plain) comes(f api.Field) api.Errno {
	if plainSize(f) > p.room {
		return api.ErrFull
	}
	p.shrink(p.room - plainSize(f))
	p.all = append(p.all, f)
	return api.OK
}

// back: the entry that is so many behind number n.
func (p *plain) back(n int, at uint64) (api.Field, bool) {
	if at >= uint64(n) {
		return api.Field{}, false
	}
	return p.entry(n - 1 - int(at))
}

// plainFixed: a fixed field.
func plainFixed(at uint64) (api.Field, bool) {
	if at > 98 {
		return api.Field{}, false
	}
	return table.Fixed(int(at))
}

// instruction: one that bytes begin with is done.
func (p *plain) instruction(r *plainReader) api.Errno {
	b := r.bits()
	var f api.Field
	ok := true
	switch {
	case b[:2] == "11":
		at := r.number(6)
		f, ok = plainFixed(at)
		f.Value = r.text(8)
	case b[:2] == "10":
		at := r.number(6)
		f, ok = p.back(len(p.all), at)
		f.Value = r.text(8)
	case b[:2] == "01":
		f.Name = r.text(6)
		f.Value = r.text(8)
	case b[:3] == "001":
		n := r.number(5)
		if r.e != api.OK {
			return r.e
		}
		if n > uint64(p.most) {
			return api.ErrLimit
		}
		p.room = int(n)
		p.shrink(p.room)
		return api.OK
	default:
		f, ok = p.back(len(p.all), r.number(5))
	}
	if r.e != api.OK {
		return r.e
	}
	if !ok {
		return api.ErrForm
	}
	return p.comes(f)
}

// table: P20.4.
func (p *plain) table(b []byte) (int, api.Errno) {
	was := *p
	rest := b
	for len(rest) > 0 {
		r := plainReader{b: rest}
		e := p.instruction(&r)
		if e == api.ErrShort {
			break
		}
		if e != api.OK {
			*p = was
			return 0, e
		}
		rest = r.b
	}
	return len(b) - len(rest), api.OK
}

// need: the number of entries that must have come, of R above 0, where so many came: the one from 1 on that has R less 1 left when divided by F, and is above came less E and at most came and E.
func need(told uint64, room, came int) (int, bool) {
	e := room / 32
	if told > uint64(2*e) {
		return 0, false
	}
	for n := max(came-e+1, 1); n <= came+e; n++ {
		if n%(2*e) == int(told)-1 {
			return n, true
		}
	}
	return 0, false
}

// looked: what a section is, as far as its words go without the waiting.
type looked struct {
	number int
	begins bool  // its beginning may be
	needs  []int // the entries that its lines name
	lines  int   // how many there are
	fields []api.Field
	e      api.Errno
}

// look at a section.
func (p *plain) look(section []byte) (x looked) {
	r := plainReader{b: section}
	told := r.number(8)
	sign := r.bits()[0] == '1'
	d := r.number(7)
	x.begins = r.e == api.OK
	if x.begins && told > 0 {
		x.number, x.begins = need(told, p.most, len(p.all))
	}
	base := int64(x.number) + int64(d)
	if sign {
		base = int64(x.number) - int64(d) - 1
	}
	if !x.begins || base < 0 {
		return looked{e: api.ErrForm}
	}
	x.e = api.OK
	for len(r.b) > 0 && x.e == api.OK {
		x.e = p.line(&r, &x, base)
	}
	bytes := 0
	for _, f := range x.fields {
		bytes += len(f.Name) + len(f.Value)
	}
	if x.e == api.OK && (len(x.fields) > 256 || bytes > 65536) {
		x.e = api.ErrLimit
	}
	return x
}

// line: one is read.
func (p *plain) line(r *plainReader, x *looked, base int64) api.Errno {
	x.lines++
	b := r.bits()
	at, fixed, named := int64(-1), false, true // the entry or the fixed field
	var f api.Field
	switch {
	case b[:2] == "11":
		at, fixed, named = int64(r.number(6)), true, false
	case b[:2] == "10":
		at, named = base-1-int64(r.number(6)), false
	case b[:4] == "0001":
		at, named = base+int64(r.number(4)), false
	case b[:2] == "01":
		at, fixed = int64(r.number(4)), b[3] == '1'
		if !fixed {
			at = base - 1 - at
		}
	case b[:4] == "0000":
		at = base + int64(r.number(3))
	default:
		f.Name = r.text(4)
	}
	isText := strings.HasPrefix(b, "001")
	value := ""
	if named {
		value = r.text(8)
	}
	if r.e != api.OK {
		return api.ErrForm
	}
	if !isText {
		ok := at >= 0 && (fixed || at < int64(x.number))
		if ok && fixed {
			f, ok = plainFixed(uint64(at))
		} else if ok {
			x.needs = append(x.needs, int(at))
			f, ok = p.entry(int(at))
		}
		if !ok {
			return api.ErrForm
		}
	}
	if named {
		f.Value = value
	}
	x.fields = append(x.fields, f)
	return api.OK
}

// get: P20.5.
func (p *plain) get(id uint64, section []byte) ([]api.Field, api.Errno) {
	if id > api.MaxNumber {
		return nil, api.ErrArg
	}
	x := p.look(section)
	if !x.begins {
		return nil, api.ErrForm
	}
	if x.number > len(p.all) {
		others := maps.Clone(p.waiting)
		delete(others, id)
		if len(others) >= p.waits {
			return nil, api.ErrFull
		}
		p.waiting[id] = 1
		return nil, api.ErrWait
	}
	if x.e != api.OK {
		return nil, x.e
	}
	delete(p.waiting, id)
	if x.number > 0 {
		p.say = append(p.say, number(0x80, 7, id)...)
		p.told = max(p.told, x.number)
	}
	return x.fields, api.OK
}

// cancel, and saying: P20.6.
func (p *plain) cancel(id uint64) api.Errno {
	if id > api.MaxNumber {
		return api.ErrArg
	}
	delete(p.waiting, id)
	p.say = append(p.say, number(0x40, 6, id)...)
	return api.OK
}

func (p *plain) saying() []byte {
	b := slices.Clone(p.say)
	if len(p.all) > p.told {
		b = append(b, number(0, 6, uint64(len(p.all)-p.told))...)
	}
	p.say, p.told = nil, len(p.all)
	return b
}
