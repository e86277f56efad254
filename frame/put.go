package frame

import (
	"mailcoach/api"
	"mailcoach/varint"
)

// aheadOfData: the bytes of a frame that may be, but Data, which stands at the end of every row that has it.
func aheadOfData(f api.Frame) []byte {
	size := uint64(len(f.Data))
	switch f.Kind {
	case api.FrPadding:
		return make([]byte, f.Limit) // each of them is its type alone
	case api.FrPing:
		return numbers(typePing)
	case api.FrAck:
		return numbers(ackNumbers(f)...)
	case api.FrReset:
		return numbers(typeReset, f.Stream, f.Code, f.Limit)
	case api.FrStop:
		return numbers(typeStop, f.Stream, f.Code)
	case api.FrCrypto:
		return numbers(typeCrypto, f.Offset, size)
	case api.FrStream:
		return numbers(streamNumbers(f)...)
	case api.FrMaxData:
		return numbers(typeMaxData, f.Limit)
	case api.FrMaxStreamData:
		return numbers(typeMaxStreamData, f.Stream, f.Limit)
	case api.FrMaxStreams:
		return numbers(typeMaxStreams|finBit(f), f.Limit)
	case api.FrDataBlocked:
		return numbers(typeDataBlocked, f.Limit)
	case api.FrStreamBlocked:
		return numbers(typeStreamBlocked, f.Stream, f.Limit)
	case api.FrClose:
		if f.Fin {
			return numbers(typeClose|bitFin, f.Code, size)
		}
		return numbers(typeClose, f.Code, 0, size)
	}
	return numbers(typeDone)
}

// numbers: as bytes, one behind the other. All that stand in a frame that may be are at most MaxNumber, so there is no error to tell.
func numbers(l ...uint64) []byte {
	var b []byte
	for _, n := range l {
		told, _ := varint.Put(n)
		b = append(b, told...)
	}
	return b
}

// finBit: the bit that tells Fin.
func finBit(f api.Frame) uint64 {
	if f.Fin {
		return bitFin
	}
	return 0
}

// streamNumbers: the numbers of a FrStream, with its type.
func streamNumbers(f api.Frame) []uint64 {
	size := uint64(len(f.Data))
	bits := bitSized | finBit(f)
	if f.Offset == 0 {
		return []uint64{typeStream | bits, f.Stream, size}
	}
	return []uint64{typeStream | bitOffset | bits, f.Stream, f.Offset, size}
}

// ackNumbers: the numbers of a FrAck, with its type; its ranges from the last one back.
func ackNumbers(f api.Frame) []uint64 {
	others := len(f.Ranges) - 1
	last := f.Ranges[others]
	l := []uint64{typeAck, last.To, f.Limit, uint64(others), last.To - last.From}
	for i := others - 1; i >= 0; i-- {
		r, above := f.Ranges[i], f.Ranges[i+1]
		l = append(l, above.From-r.To-2, r.To-r.From)
	}
	return l
}
