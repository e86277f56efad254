package frame_test

import (
	"math/big"
	"slices"
	"strings"

	"mailcoach/api"
)

// plainRows: the chapter's table, what follows as words: the fields by their letters (S Stream, C Code, L Limit, M Limit up to 2^60, O Offset, D Data with its size, R Data up to the end, Z a number that is 0, A what a FrAck has, P the FrPadding that follow), and F for Fin.
var plainRows = map[byte]struct {
	kind api.FrameKind
	row  string
}{
	0: {api.FrPadding, "P"}, 1: {api.FrPing, ""}, 2: {api.FrAck, "A"}, 4: {api.FrReset, "S C L"}, 5: {api.FrStop, "S C"}, 6: {api.FrCrypto, "O D"},
	8: {api.FrStream, "S R"}, 9: {api.FrStream, "S R F"}, 10: {api.FrStream, "S D"}, 11: {api.FrStream, "S D F"},
	12: {api.FrStream, "S O R"}, 13: {api.FrStream, "S O R F"}, 14: {api.FrStream, "S O D"}, 15: {api.FrStream, "S O D F"},
	16: {api.FrMaxData, "L"}, 17: {api.FrMaxStreamData, "S L"}, 18: {api.FrMaxStreams, "M"}, 19: {api.FrMaxStreams, "M F"},
	20: {api.FrDataBlocked, "L"}, 21: {api.FrStreamBlocked, "S L"}, 28: {api.FrClose, "C Z D"}, 29: {api.FrClose, "C D F"}, 30: {api.FrDone, ""},
}

// plainNumber: a number of few bytes, and what stands behind it.
func plainNumber(b []byte) (n uint64, rest []byte, ok bool) {
	if len(b) == 0 {
		return 0, nil, false
	}
	size := 1 << (b[0] >> 6)
	if len(b) < size {
		return 0, nil, false
	}
	big1 := new(big.Int).SetBytes(b[:size])
	big1.SetBit(big1, 8*size-1, 0).SetBit(big1, 8*size-2, 0)
	return big1.Uint64(), b[size:], true
}

// plainGet: the frames of bytes, row by row, item by item.
func plainGet(b []byte) ([]api.Frame, api.Errno) {
	if len(b) > api.MaxBytes {
		return nil, api.ErrLimit
	}
	var l []api.Frame
	for len(b) > 0 {
		if len(l) == api.MaxFrames {
			return nil, api.ErrLimit
		}
		_, behind, ok := plainNumber(b)
		if !ok {
			return nil, api.ErrShort
		}
		row, known := plainRows[b[0]]
		if !known || len(b)-len(behind) != 1 {
			return nil, api.ErrForm
		}
		f := api.Frame{Kind: row.kind}
		b = behind
		for _, item := range strings.Fields(row.row) {
			var e api.Errno
			b, e = plainItem(&f, item, b)
			if e != api.OK {
				return nil, e
			}
		}
		l = append(l, f)
	}
	return l, api.OK
}

// plainItem reads one item of a row into a frame; it answers the bytes behind it.
func plainItem(f *api.Frame, item string, b []byte) ([]byte, api.Errno) {
	switch item {
	case "F":
		f.Fin = true
		return b, api.OK
	case "P":
		many := 1
		for many <= len(b) && b[many-1] == 0 {
			many++
		}
		if many > 65536 {
			return nil, api.ErrLimit
		}
		f.Limit = uint64(many)
		return b[many-1:], api.OK
	case "R":
		f.Data = slices.Concat(b)
		if f.Offset > api.MaxNumber-uint64(len(b)) {
			return nil, api.ErrForm
		}
		return nil, api.OK
	case "A":
		return plainAck(f, b)
	}
	n, rest, ok := plainNumber(b)
	if !ok {
		return nil, api.ErrShort
	}
	switch item {
	case "S":
		f.Stream = n
	case "C":
		f.Code = n
	case "L":
		f.Limit = n
	case "O":
		f.Offset = n
	case "M":
		f.Limit = n
		if n > 1<<60 {
			return nil, api.ErrForm
		}
	case "Z":
		if n != 0 {
			return nil, api.ErrForm
		}
	case "D":
		if n > api.MaxNumber-f.Offset {
			return nil, api.ErrForm
		}
		if n > uint64(len(rest)) {
			return nil, api.ErrShort
		}
		f.Data, rest = slices.Concat(rest[:n]), rest[n:]
	}
	return rest, api.OK
}

// plainAck reads what a FrAck has: by numbers with a sign, going down from the greatest one.
func plainAck(f *api.Frame, b []byte) ([]byte, api.Errno) {
	var n uint64
	var ok bool
	var down int64 // the lowest number told so far
	to, many := int64(0), 0
	for i := 0; i < 4+2*(many-1) || i < 4; i++ {
		if n, b, ok = plainNumber(b); !ok {
			return nil, api.ErrShort
		}
		switch {
		case i == 0:
			down, to = int64(n), int64(n)
		case i == 1:
			f.Limit = n
		case i == 2:
			if n > 63 {
				return nil, api.ErrLimit
			}
			many = int(n) + 1
		case i%2 == 1:
			down -= int64(n)
			if down < 0 {
				return nil, api.ErrForm
			}
			f.Ranges = append([]api.Range{{From: uint64(down), To: uint64(to)}}, f.Ranges...)
		default:
			down -= int64(n) + 2
			if to = down; down < 0 {
				return nil, api.ErrForm
			}
		}
	}
	return b, api.OK
}

// plainPut: the bytes of frames that may be.
func plainPut(l []api.Frame) []byte {
	var b []byte
	for _, f := range l {
		b = append(b, plainFrame(f)...)
	}
	return b
}

// plainFrame: the bytes of a frame by the row whose type it has.
func plainFrame(f api.Frame) []byte {
	for first := range byte(31) {
		row, known := plainRows[first]
		if !known || row.kind != f.Kind || strings.Contains(row.row, "F") != f.Fin {
			continue
		}
		if f.Kind == api.FrStream && (strings.Contains(row.row, "O") != (f.Offset != 0) || !strings.Contains(row.row, "D")) {
			continue
		}
		b := []byte{first}
		for _, item := range strings.Fields(row.row) {
			b = append(b, plainPutItem(f, item)...)
		}
		return b
	}
	panic("no row")
}

func plainPutItem(f api.Frame, item string) []byte {
	switch item {
	case "P":
		return make([]byte, f.Limit-1)
	case "S":
		return shortest(f.Stream)
	case "C":
		return shortest(f.Code)
	case "L", "M":
		return shortest(f.Limit)
	case "O":
		return shortest(f.Offset)
	case "Z":
		return []byte{0}
	case "D":
		return append(shortest(uint64(len(f.Data))), f.Data...)
	case "A":
		return plainPutAck(f)
	}
	return nil
}

// plainPutAck: going down from the greatest number, how far each step goes.
func plainPutAck(f api.Frame) []byte {
	turned := slices.Clone(f.Ranges)
	slices.Reverse(turned)
	b := slices.Concat(shortest(turned[0].To), shortest(f.Limit), shortest(uint64(len(turned)-1)))
	for i, r := range turned {
		if i > 0 {
			between := turned[i-1].From - 1 - r.To
			b = append(b, shortest(between-1)...)
		}
		many := r.To + 1 - r.From
		b = append(b, shortest(many-1)...)
	}
	return b
}

// shortest: a number in as few bytes as can be.
func shortest(n uint64) []byte {
	for size := 1; ; size *= 2 {
		if size == 8 || n < 1<<(8*size-2) {
			return numberOf(n, size)
		}
	}
}

// numberOf: a number in 1, 2, 4 or 8 bytes.
func numberOf(n uint64, size int) []byte {
	b := make([]byte, size)
	for i := range b {
		b[i] = byte(n >> (8 * (size - 1 - i)))
	}
	b[0] |= map[int]byte{1: 0, 2: 0x40, 4: 0x80, 8: 0xc0}[size]
	return b
}
