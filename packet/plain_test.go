package packet_test

import (
	"bytes"
	"encoding/binary"
	"math/big"
	"testing"

	"mailcoach/aead"
	"mailcoach/api"
	"mailcoach/keys"
	"mailcoach/packet"
	"mailcoach/varint"
)

// The chapter's words once more, written out otherwise, to hold the package's answers against.

// result is all that Open answers.
type result struct {
	h       api.Header
	payload []byte
	size    int
	e       api.Errno
}

func open(b []byte, to int, k api.Keys, came int64) result {
	h, payload, size, e := packet.Open(b, to, k, came)
	return result{h, payload, size, e}
}

func (r result) same(other result) bool {
	return r.h.Long == other.h.Long && bytes.Equal(r.h.To, other.h.To) && bytes.Equal(r.h.From, other.h.From) && r.h.Number == other.h.Number && r.h.Phase == other.h.Phase &&
		bytes.Equal(r.payload, other.payload) && r.size == other.size && r.e == other.e
}

// least: the least number that may come or be asked for, when numbers up to one are known.
func least(known int64) *big.Int {
	n := big.NewInt(max(known, -1))
	return n.Add(n, big.NewInt(1))
}

// plainShort: as P13.1 says it, by numbers without bound.
func plainShort(number uint64, answered int64) (int, api.Errno) {
	n := new(big.Int).SetUint64(number)
	if number > api.MaxNumber || big.NewInt(answered).Cmp(n) >= 0 {
		return 0, api.ErrArg
	}
	way := new(big.Int).Sub(n, big.NewInt(answered))
	if answered < 0 {
		way.Add(n, big.NewInt(1))
	}
	for size, most := range []int64{1 << 7, 1 << 15, 1 << 23, 1 << 31} {
		if way.Cmp(big.NewInt(most)) <= 0 {
			return size + 1, api.OK
		}
	}
	return 0, api.ErrLimit
}

// plainLong: as P13.1 says it, by numbers without bound.
func plainLong(told uint64, n int, came int64) (uint64, api.Errno) {
	if n < 1 || n > 4 || came > api.MaxNumber {
		return 0, api.ErrArg
	}
	w := big.NewInt([]int64{1 << 8, 1 << 16, 1 << 24, 1 << 32}[n-1])
	t := new(big.Int).SetUint64(told)
	if t.Cmp(w) >= 0 {
		return 0, api.ErrArg
	}
	e := least(came)
	half := new(big.Int).Div(w, big.NewInt(2))
	c := new(big.Int).Div(e, w)
	c.Add(c.Mul(c, w), t)
	limit := big.NewInt(1 << 62)
	if new(big.Int).Add(c, half).Cmp(e) <= 0 && c.Cmp(new(big.Int).Sub(limit, w)) < 0 {
		c.Add(c, w)
	} else if c.Cmp(new(big.Int).Add(e, half)) > 0 && c.Cmp(w) >= 0 {
		c.Sub(c, w)
	}
	if c.Cmp(limit) >= 0 {
		return 0, api.ErrLimit
	}
	return c.Uint64(), api.OK
}

// forge: a packet of any first byte (its two lowest bits aside) and any bytes between it and the number; sealed and masked as the chapter says it.
func forge(first byte, between []byte, number uint64, n int, payload []byte, k api.Keys) []byte {
	head := append([]byte{first | byte(n-1)}, between...)
	head = append(head, binary.BigEndian.AppendUint64(nil, number)[8-n:]...)
	nonce, _ := keys.Nonce(k.IV, number)
	sealed, e := aead.Seal(k.Key, nonce, payload, head)
	if e != api.OK {
		panic(e)
	}
	b := append(head, sealed...)
	at := 1 + len(between)
	mask, e := keys.Mask(k.Mask, b[at+4:at+20])
	if e != api.OK {
		panic(e)
	}
	if first&0x80 != 0 {
		mask[0] &= 0x0f
	} else {
		mask[0] &= 0x1f
	}
	b[0] ^= mask[0]
	for i := range n {
		b[at+i] ^= mask[1+i]
	}
	return b
}

// between: what stands in a long header between its first byte and the number; the number 0 and the length as they are handed in.
func between(to, from, zero, length []byte) []byte {
	b := []byte{0, 0, 0, 1, byte(len(to))}
	b = append(b, to...)
	b = append(b, byte(len(from)))
	return append(append(append(b, from...), zero...), length...)
}

// wide: a number of few bytes, in 1, 2, 4 or 8 of them.
func wide(t *testing.T, number uint64, size int) []byte {
	t.Helper()
	mark := map[int]byte{1: 0, 2: 0x40, 4: 0x80, 8: 0xc0}[size]
	b := binary.BigEndian.AppendUint64(nil, number)[8-size:]
	b[0] |= mark
	if got, length, e := varint.Get(b); got != number || length != size || e != api.OK {
		t.Fatalf("%d in %d bytes: %x", number, size, b)
	}
	return b
}

// plainSeal: as P13.2 says it of what may be.
func plainSeal(h api.Header, n int, payload []byte, k api.Keys) []byte {
	if h.Long {
		length := binary.BigEndian.AppendUint16(nil, uint16(64*256+n+len(payload)+16))
		return forge(0xc0, between(h.To, h.From, []byte{0}, length), h.Number, n, payload, k)
	}
	first := byte(0x40)
	if h.Phase {
		first += 4
	}
	return forge(first, h.To, h.Number, n, payload, k)
}

// plainPlace: how P13.3 reads a packet up to its number: its place, how many bytes belong to the packet, where From is.
func plainPlace(b []byte, to int) (at, size, from int, e api.Errno) {
	if len(b) == 0 {
		return 0, 0, 0, api.ErrShort
	}
	if b[0]&0x40 == 0 || b[0]&0x80 != 0 && b[0]&0x30 != 0 {
		return 0, 0, 0, api.ErrForm
	}
	if b[0]&0x80 == 0 {
		if len(b) < 1+to+20 {
			return 0, 0, 0, api.ErrShort
		}
		return 1 + to, len(b), 0, api.OK
	}
	if len(b) < 5 {
		return 0, 0, 0, api.ErrShort
	}
	if !bytes.Equal(b[1:5], []byte{0, 0, 0, 1}) {
		return 0, 0, 0, api.ErrForm
	}
	at = 5
	for _, may := range []func(byte) bool{func(x byte) bool { return int(x) == to }, func(x byte) bool { return x <= 20 }} {
		if len(b) == at {
			return 0, 0, 0, api.ErrShort
		}
		if !may(b[at]) {
			return 0, 0, 0, api.ErrForm
		}
		from = at + 1
		at = from + int(b[at])
		if len(b) < at {
			return 0, 0, 0, api.ErrShort
		}
	}
	zero, length, e := varint.Get(b[at:])
	if e != api.OK {
		return 0, 0, 0, e
	}
	if zero != 0 {
		return 0, 0, 0, api.ErrForm
	}
	at += length
	rest, length, e := varint.Get(b[at:])
	if e != api.OK {
		return 0, 0, 0, e
	}
	if rest < 20 {
		return 0, 0, 0, api.ErrForm
	}
	at += length
	if uint64(len(b)-at) < rest {
		return 0, 0, 0, api.ErrShort
	}
	return at, at + int(rest), from, api.OK
}

// plainOpen: as P13.3 says it of arguments that may be.
func plainOpen(b []byte, to int, k api.Keys, came int64) result {
	at, size, from, e := plainPlace(b, to)
	if e != api.OK {
		return result{e: e}
	}
	p := bytes.Clone(b[:size])
	mask, _ := keys.Mask(k.Mask, p[at+4:at+20])
	h := api.Header{Long: p[0] >= 0x80}
	spare := byte(0x0c)
	if h.Long {
		p[0] ^= mask[0] & 0x0f
		h.From = p[from : from+int(p[from-1])]
		h.To = p[6 : 6+to]
	} else {
		spare = 0x18
		p[0] ^= mask[0] & 0x1f
		h.To = p[1 : 1+to]
		h.Phase = p[0]&4 != 0
	}
	n := int(p[0]&3) + 1
	told := uint64(0)
	for i := range n {
		p[at+i] ^= mask[1+i]
		told = told*256 + uint64(p[at+i])
	}
	h.Number, e = plainLong(told, n, came)
	if e != api.OK {
		return result{e: e}
	}
	nonce, _ := keys.Nonce(k.IV, h.Number)
	payload, e := aead.Open(k.Key, nonce, p[at+n:], p[:at+n])
	switch {
	case e != api.OK:
		return result{e: api.ErrTag}
	case p[0]&spare != 0 || len(payload) == 0:
		return result{e: api.ErrForm}
	}
	return result{h, payload, size, api.OK}
}
