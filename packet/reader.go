package packet

import (
	"mailcoach/api"
	"mailcoach/varint"
)

// reader goes through bytes. It keeps the first error: what is asked for behind it is nothing, and changes nothing.
type reader struct {
	b  []byte
	at int
	e  api.Errno
}

// fail keeps an error, if it is the first one.
func (r *reader) fail(e api.Errno) {
	if r.e == api.OK {
		r.e = e
	}
}

// ask: what was told must be so.
func (r *reader) ask(so bool) {
	if !so {
		r.fail(api.ErrForm)
	}
}

// need: so many bytes must be left.
func (r *reader) need(size uint64) {
	if size > uint64(len(r.b)-r.at) {
		r.fail(api.ErrShort)
	}
}

// take: the next bytes, so many.
func (r *reader) take(size uint64) []byte {
	r.need(size)
	if r.e != api.OK {
		return nil
	}
	from := r.at
	r.at += int(size)
	return r.b[from:r.at]
}

// one: the next byte.
func (r *reader) one() byte {
	b := r.take(1)
	if r.e != api.OK {
		return 0
	}
	return b[0]
}

// name: who is told, behind a length of one byte.
func (r *reader) name() []byte {
	size := r.one()
	r.ask(size <= mostName)
	return r.take(uint64(size))
}

// number: the next number of few bytes.
func (r *reader) number() uint64 {
	number, size, e := varint.Get(r.b[r.at:])
	if e != api.OK {
		r.fail(e)
	}
	if r.e != api.OK {
		return 0
	}
	r.at += size
	return number
}

// cut: so many bytes are left, and no more; those of the shortest packet at least.
func (r *reader) cut(size uint64) {
	r.ask(size >= leastRest)
	r.need(size)
	if r.e == api.OK {
		r.b = r.b[:r.at+int(size)]
	}
}
