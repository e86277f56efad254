package frame

import (
	"slices"

	"mailcoach/api"
	"mailcoach/varint"
)

// reader has the bytes that are still to be read, and the type of the frame that is read. What may not be leaves, from wherever it is seen, by a panic with its error.
type reader struct {
	rest     []byte
	typeBits uint64
}

// frames: all there are; or the error that something inside has left by.
func (r *reader) frames() (l []api.Frame, e api.Errno) {
	defer func() {
		if why, ok := recover().(api.Errno); ok {
			l, e = nil, why
		}
	}()
	rows := r.rows()
	for len(r.rest) > 0 {
		if len(l) == api.MaxFrames {
			panic(api.ErrLimit)
		}
		follows := r.begin(rows)
		l = append(l, follows())
	}
	return l, api.OK
}

// rows: what reads the rest of a frame, by its type.
func (r *reader) rows() map[uint64]func() api.Frame {
	rows := map[uint64]func() api.Frame{
		typePadding:             r.padding,
		typePing:                r.ping,
		typeAck:                 r.ack,
		typeReset:               r.reset,
		typeStop:                r.stop,
		typeCrypto:              r.crypto,
		typeMaxData:             r.maxData,
		typeMaxStreamData:       r.maxStreamData,
		typeMaxStreams:          r.maxStreams,
		typeMaxStreams | bitFin: r.maxStreams,
		typeDataBlocked:         r.dataBlocked,
		typeStreamBlocked:       r.streamBlocked,
		typeClose:               r.close,
		typeClose | bitFin:      r.close,
		typeDone:                r.done,
	}
	for bits := uint64(0); bits <= bitOffset|bitSized|bitFin; bits++ {
		rows[typeStream|bits] = r.stream
	}
	return rows
}

// begin: reads a type, and answers what reads the rest.
func (r *reader) begin(rows map[uint64]func() api.Frame) func() api.Frame {
	before := len(r.rest)
	r.typeBits = r.number()
	follows, is := rows[r.typeBits]
	if !is || before-len(r.rest) > 1 { // a byte is enough for each type of the table
		panic(api.ErrForm)
	}
	return follows
}

// number reads one.
func (r *reader) number() uint64 {
	n, length, e := varint.Get(r.rest)
	if e != api.OK {
		panic(e)
	}
	r.rest = r.rest[length:]
	return n
}

// numberUpTo reads a number that may not be above most.
func (r *reader) numberUpTo(most uint64) uint64 {
	n := r.number()
	if n > most {
		panic(api.ErrForm)
	}
	return n
}

// sized reads bytes that stand at an offset, and how many they are ahead of them.
func (r *reader) sized(offset uint64) []byte {
	return r.data(offset, r.number())
}

// data reads so many bytes, that stand at an offset, into new memory.
func (r *reader) data(offset, size uint64) []byte {
	if offset+size > api.MaxNumber { // neither is above it, so that the sum doesn't wrap round
		panic(api.ErrForm)
	}
	if size > uint64(len(r.rest)) {
		panic(api.ErrShort)
	}
	b := append([]byte(nil), r.rest[:size]...)
	r.rest = r.rest[size:]
	return b
}

// has: does the type have a bit?
func (r *reader) has(bit uint64) bool { return r.typeBits&bit != 0 }

// padding: its type is read; those that follow count with it.
func (r *reader) padding() api.Frame {
	many := uint64(1)
	for len(r.rest) > 0 && r.rest[0] == typePadding {
		if many == maxPadding {
			panic(api.ErrLimit)
		}
		many++
		r.rest = r.rest[1:]
	}
	return api.Frame{Kind: api.FrPadding, Limit: many}
}

func (r *reader) ping() api.Frame { return api.Frame{Kind: api.FrPing} }

func (r *reader) done() api.Frame { return api.Frame{Kind: api.FrDone} }

// ack: the ranges come from the last one back.
func (r *reader) ack() api.Frame {
	greatest := r.number()
	f := api.Frame{Kind: api.FrAck, Limit: r.number()}
	others := r.number()
	if others >= api.MaxRanges {
		panic(api.ErrLimit)
	}
	f.Ranges = append(f.Ranges, r.rangeUpTo(greatest))
	for i := range others {
		below := f.Ranges[i].From
		between := r.number()
		if between+2 > below { // one number is between at least, and one in the range
			panic(api.ErrForm)
		}
		f.Ranges = append(f.Ranges, r.rangeUpTo(below-between-2))
	}
	slices.Reverse(f.Ranges)
	return f
}

// rangeUpTo reads how many numbers, but one, the range has that ends at a number.
func (r *reader) rangeUpTo(to uint64) api.Range {
	return api.Range{From: to - r.numberUpTo(to), To: to}
}

func (r *reader) reset() api.Frame {
	return api.Frame{Kind: api.FrReset, Stream: r.number(), Code: r.number(), Limit: r.number()}
}

func (r *reader) stop() api.Frame {
	return api.Frame{Kind: api.FrStop, Stream: r.number(), Code: r.number()}
}

func (r *reader) crypto() api.Frame {
	f := api.Frame{Kind: api.FrCrypto, Offset: r.number()}
	f.Data = r.sized(f.Offset)
	return f
}

func (r *reader) stream() api.Frame {
	f := api.Frame{Kind: api.FrStream, Stream: r.number(), Fin: r.has(bitFin)}
	if r.has(bitOffset) {
		f.Offset = r.number()
	}
	if r.has(bitSized) {
		f.Data = r.sized(f.Offset)
	} else {
		f.Data = r.data(f.Offset, uint64(len(r.rest)))
	}
	return f
}

func (r *reader) maxData() api.Frame {
	return api.Frame{Kind: api.FrMaxData, Limit: r.number()}
}

func (r *reader) maxStreamData() api.Frame {
	return api.Frame{Kind: api.FrMaxStreamData, Stream: r.number(), Limit: r.number()}
}

func (r *reader) maxStreams() api.Frame {
	return api.Frame{Kind: api.FrMaxStreams, Limit: r.numberUpTo(maxStreams), Fin: r.has(bitFin)}
}

func (r *reader) dataBlocked() api.Frame {
	return api.Frame{Kind: api.FrDataBlocked, Limit: r.number()}
}

func (r *reader) streamBlocked() api.Frame {
	return api.Frame{Kind: api.FrStreamBlocked, Stream: r.number(), Limit: r.number()}
}

// close: that of a connection, not of an application, has a number that is 0 ahead of its size.
func (r *reader) close() api.Frame {
	f := api.Frame{Kind: api.FrClose, Code: r.number(), Fin: r.has(bitFin)}
	if !f.Fin {
		r.numberUpTo(0)
	}
	f.Data = r.sized(0)
	return f
}
