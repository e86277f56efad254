package hello_test

import (
	"crypto/hkdf"
	"crypto/hmac"
	"crypto/sha256"
	"encoding/binary"

	"mailcoach/api"
	"mailcoach/hello"
)

// The chapter's words once more, with the numbers of few bytes written out and the library's HMAC and HKDF, to hold the package's answers against.

// inSize: a limit in 1, 2, 4 or 8 bytes, perhaps in more than it needs.
func inSize(limit uint64, size int) []byte {
	switch size {
	case 1:
		return []byte{byte(limit)}
	case 2:
		return binary.BigEndian.AppendUint16(nil, uint16(limit)|1<<14)
	case 4:
		return binary.BigEndian.AppendUint32(nil, uint32(limit)|2<<30)
	}
	return binary.BigEndian.AppendUint64(nil, limit|3<<62)
}

// sizeOf: how many bytes a limit needs.
func sizeOf(limit uint64) int {
	switch {
	case limit <= 63:
		return 1
	case limit <= 16383:
		return 2
	case limit <= 1073741823:
		return 4
	}
	return 8
}

// inSizes: a greeting's bytes, its limits in so many bytes each.
func inSizes(h hello.Hello, sizes [4]int) []byte {
	b := []byte{byte(h.Kind)}
	if h.Kind != hello.Finish {
		b = append(b, h.Nonce[:]...)
		for i, limit := range h.Limits {
			b = append(b, inSize(limit, sizes[i])...)
		}
	}
	if h.Kind != hello.Client {
		b = append(b, h.Proof[:]...)
	}
	return b
}

// plainPut: the bytes of a greeting that may be.
func plainPut(h hello.Hello) []byte {
	var sizes [4]int
	for i, limit := range h.Limits {
		sizes[i] = sizeOf(limit)
	}
	return inSizes(h, sizes)
}

// plainGet: what P17.1 says, by places.
func plainGet(b []byte) (hello.Hello, int, api.Errno) {
	if len(b) == 0 {
		return hello.Hello{}, 0, api.ErrShort
	}
	h := hello.Hello{Kind: hello.Kind(b[0])}
	longer := false
	at := 1
	switch b[0] {
	case 1, 2:
		if len(b) < 33 {
			return hello.Hello{}, 0, api.ErrShort
		}
		h.Nonce = [32]byte(b[1:33])
		at = 33
		for i := range 4 {
			if at >= len(b) || at+1<<(b[at]>>6) > len(b) {
				return hello.Hello{}, 0, api.ErrShort
			}
			size := 1 << (b[at] >> 6)
			wide := append(make([]byte, 8-size), b[at:at+size]...)
			wide[8-size] &= 0x3f
			h.Limits[i] = binary.BigEndian.Uint64(wide)
			longer = longer || sizeOf(h.Limits[i]) < size
			at += size
		}
	case 3:
	default:
		return hello.Hello{}, 0, api.ErrForm
	}
	if b[0] != 1 {
		if at+32 > len(b) {
			return hello.Hello{}, 0, api.ErrShort
		}
		h.Proof = [32]byte(b[at:])
		at += 32
	}
	if longer {
		return hello.Hello{}, 0, api.ErrForm
	}
	return h, at, api.OK
}

// plainProof: what P17.2 says of what may be, without any limit of what was said.
func plainProof(shared, said []byte, server bool) [32]byte {
	both, err := hkdf.Extract(sha256.New, shared, nil)
	if err != nil {
		panic(err)
	}
	name := "tls13 client proof"
	if server {
		name = "tls13 server proof"
	}
	key, err := hkdf.Expand(sha256.New, both, "\x00\x20"+string([]byte{byte(len(name))})+name+"\x00", 32)
	if err != nil {
		panic(err)
	}
	sum := hmac.New(sha256.New, key)
	sum.Write(said)
	return [32]byte(sum.Sum(nil))
}
