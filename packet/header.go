package packet

import (
	"bytes"

	"mailcoach/api"
)

// Bits of a packet's first byte: whether the header is long; one that is set in every packet; in a long header, those of other kinds of packets; else, which keys; how many bytes the number has, less one.
const (
	longBit  = 0x80
	setBit   = 0x40
	typeBits = 0x30
	phaseBit = 0x04
	sizeBits = 0x03
)

// What stands in every long header. A length has two bytes, whatever it is: so the number's place hangs on the names alone.
const (
	version  = "\x00\x00\x00\x01"
	noToken  = 0x00
	twoBytes = 0x40
)

// kind is whether a header is long; and of its first byte which bits are masked, which must not be set, which tells the keys.
type kind struct {
	long                  bool
	covered, spare, phase byte
}

// kindOf: the kind that a first byte tells, masked or not: the bit that tells it never is.
func kindOf(first byte) kind {
	if first&longBit != 0 {
		return kind{long: true, covered: 0x0f, spare: 0x0c}
	}
	return kind{covered: 0x1f, spare: 0x18, phase: phaseBit}
}

// found is a packet whose parts have been found: all bytes that belong to it, who it is for and from, the number's first place.
type found struct {
	whole, to, from []byte
	at              int
}

// laid: a header's bytes, its number in n of them at the end; rest: how many bytes there are from the number on.
func laid(h api.Header, n, rest int) []byte {
	b := []byte{firstOf(h, n)}
	switch {
	case h.Long:
		b = append(b, version...)
		b = append(b, byte(len(h.To)))
		fallthrough
	default:
		b = append(b, h.To...)
	}
	switch {
	case h.Long:
		b = append(b, byte(len(h.From)))
		b = append(b, h.From...)
		b = append(b, noToken, twoBytes|byte(rest>>8), byte(rest))
		fallthrough
	default:
		b = append(b, lowest(h.Number, n)...)
	}
	return b
}

// read finds the parts of the packet that bytes begin with, as far as they are told without its keys.
func read(b []byte, to int) (found, api.Errno) {
	r := reader{b: b}
	first := r.one()
	long := first&longBit != 0
	r.ask(first&setBit != 0)
	r.ask(!long || first&typeBits == 0)
	var p found
	switch {
	case long:
		r.ask(string(r.take(uint64(len(version)))) == version)
		r.ask(int(r.one()) == to)
		fallthrough
	default:
		p.to = r.take(uint64(to))
	}
	switch {
	case long:
		p.from = r.name()
		r.ask(r.number() == 0)
		r.cut(r.number())
		fallthrough
	default:
		r.need(leastRest)
	}
	p.whole, p.at = r.b, r.at
	return p, r.e
}

// bared: a packet's header, up to the number's last byte, without the mask. It's a copy: the bytes that were handed in stay.
func (p found) bared(k api.Keys) ([]byte, api.Errno) {
	mask, e := maskOf(p.whole[p.at:], k)
	if e != api.OK {
		return nil, e
	}
	n := int((p.whole[0]^mask[0])&sizeBits) + 1
	head := bytes.Clone(p.whole[:p.at+n])
	cover(head, p.at, mask)
	return head, api.OK
}

// firstOf: a header's first byte, ahead of the mask.
func firstOf(h api.Header, n int) byte {
	first := setBit | byte(n-1)
	if h.Long {
		first |= longBit
	}
	if h.Phase {
		first |= phaseBit
	}
	return first
}

// lowest: a number's n lowest bytes, the highest first.
func lowest(number uint64, n int) []byte {
	b := make([]byte, n)
	for i := range b {
		b[n-1-i] = byte(number >> (8 * i))
	}
	return b
}

// numberOf: the number that bytes tell, the highest first.
func numberOf(b []byte) uint64 {
	number := uint64(0)
	for _, x := range b {
		number = number<<8 | uint64(x)
	}
	return number
}
