package keys_test

import (
	"crypto/hkdf"
	"crypto/sha256"
	"encoding/binary"
	"math/bits"
)

// The chapter's words once more, by the library's SHA-256 and HKDF and a ChaCha20 that is written out, to hold the package's answers against.

// plainLabel: n bytes of a key by a name, without context.
func plainLabel(key []byte, name string, n int) []byte {
	info := binary.BigEndian.AppendUint16(nil, uint16(n))
	info = append(info, byte(len("tls13 "+name)))
	info = append(info, "tls13 "+name...)
	info = append(info, 0)
	b, err := hkdf.Expand(sha256.New, key, string(info), n)
	if err != nil {
		panic(err)
	}
	return b
}

// plainSecret: as P12.1 says it of what may be.
func plainSecret(shared, said []byte, client bool) []byte {
	salt := sha256.Sum256(said)
	key, err := hkdf.Extract(sha256.New, shared, salt[:])
	if err != nil {
		panic(err)
	}
	name := map[bool]string{true: "client", false: "server"}[client]
	return plainLabel(key, name, 32)
}

// plainNonce: as P12.3 says it of what may be.
func plainNonce(iv []byte, number uint64) []byte {
	last := binary.BigEndian.Uint64(iv[4:]) ^ number
	return binary.BigEndian.AppendUint64(append([]byte{}, iv[:4]...), last)
}

// plainMask: as P12.3 says it of what may be: a block's state is the key, the count and the nonce, one behind the other, as a sample has the last two.
func plainMask(key, sample []byte) []byte {
	var start [16]uint32
	whole := append([]byte("expand 32-byte k"), key...)
	whole = append(whole, sample...)
	for i := range start {
		start[i] = binary.LittleEndian.Uint32(whole[4*i:])
	}
	s := start
	quarter := func(a, b, c, d int) {
		s[a] += s[b]
		s[d] = bits.RotateLeft32(s[d]^s[a], 16)
		s[c] += s[d]
		s[b] = bits.RotateLeft32(s[b]^s[c], 12)
		s[a] += s[b]
		s[d] = bits.RotateLeft32(s[d]^s[a], 8)
		s[c] += s[d]
		s[b] = bits.RotateLeft32(s[b]^s[c], 7)
	}
	for range 10 {
		for column := range 4 {
			quarter(column, 4+column, 8+column, 12+column)
		}
		for column := range 4 {
			quarter(column, 4+(column+1)%4, 8+(column+2)%4, 12+(column+3)%4)
		}
	}
	var b []byte
	for i := range s {
		b = binary.LittleEndian.AppendUint32(b, s[i]+start[i])
	}
	return b[:5]
}
