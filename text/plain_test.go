package text_test

import (
	"math/big"

	"mailcoach/api"
	"mailcoach/huff"
)

// The chapter's words once more, each number written out, to hold the package's answers against.

// plainLaid: a text's bytes behind the highest bits of first, marked or not; at least so many bytes of 7 bits where there are any.
func plainLaid(first byte, bits int, marked bool, told []byte, atLeast int) []byte {
	half := 1 // what the mark counts
	for range bits - 1 {
		half *= 2
	}
	top := int(first)
	if marked {
		top += half
	}
	if len(told) < half-1 {
		return append([]byte{byte(top + len(told))}, told...)
	}
	b := []byte{byte(top + half - 1)}
	rest := len(told) - (half - 1)
	for rest > 127 || len(b) < atLeast {
		b = append(b, byte(128+rest%128))
		rest /= 128
	}
	return append(append(b, byte(rest)), told...)
}

// plainPut: as P11.1 says it of what may be put.
func plainPut(first byte, bits int, s string) []byte {
	few, e := huff.Put(s)
	if e != api.OK {
		panic(e)
	}
	if len(few) < len(s) {
		return plainLaid(first, bits, true, few, 1)
	}
	return plainLaid(first, bits, false, []byte(s), 1)
}

// got: what Get answers.
type got struct {
	above byte
	s     string
	size  int
	e     api.Errno
}

// plainGet: as P11.2 says it.
func plainGet(bits int, b []byte) got {
	if bits < 2 || bits > 8 {
		return got{e: api.ErrArg}
	}
	number, ahead, e := plainNumber(bits, b)
	if e != api.OK {
		return got{e: e}
	}
	if number.Cmp(big.NewInt(65536)) > 0 {
		return got{e: api.ErrLimit}
	}
	size := ahead + int(number.Int64())
	if len(b) < size {
		return got{e: api.ErrShort}
	}
	told := b[ahead:size]
	s := string(told)
	if b[0]>>(bits-1)%2 == 1 {
		s, e = huff.Get(told)
	}
	if e != api.OK {
		return got{e: e}
	}
	if len(s) > 65536 {
		return got{e: api.ErrLimit}
	}
	all := 1 << bits
	return got{above: byte(int(b[0]) / all * all), s: s, size: size}
}

// plainNumber: how many bytes a text has, by a number without a bound; how many bytes stand ahead of them.
func plainNumber(bits int, b []byte) (*big.Int, int, api.Errno) {
	if len(b) == 0 {
		return nil, 0, api.ErrShort
	}
	half := 1 << (bits - 1)
	number := big.NewInt(int64(int(b[0]) % half))
	if int(b[0])%half < half-1 {
		return number, 1, api.OK
	}
	for i := range 10 {
		if i+1 >= len(b) {
			return nil, 0, api.ErrShort
		}
		part := big.NewInt(int64(b[i+1] % 128))
		number.Add(number, part.Lsh(part, uint(7*i)))
		if b[i+1] >= 128 {
			continue
		}
		if number.Cmp(big.NewInt(1<<62-1)) > 0 {
			return nil, 0, api.ErrLimit
		}
		return number, i + 2, api.OK
	}
	return nil, 0, api.ErrForm
}
