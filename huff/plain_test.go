package huff_test

import (
	"slices"
	"strconv"
	"strings"

	"mailcoach/api"
)

// printedSizes: how many bits each word has, as the chapter prints it.
const printedSizes = `
  0: 13 23 28 28 28 28 28 28 28 24 30 28 28 30 28 28
 16: 28 28 28 28 28 28 30 28 28 28 28 28 28 28 28 28
 32:  6 10 10 12 13  6  8 11 10 10  8 11  8  6  6  6
 48:  5  5  5  6  6  6  6  6  6  6  7  8 15  6 12 10
 64: 13  6  7  7  7  7  7  7  7  7  7  7  7  7  7  7
 80:  7  7  7  7  7  7  7  7  8  7  8 13 19 13 14  6
 96: 15  5  6  5  6  5  6  6  6  5  7  7  6  6  6  5
112:  6  7  6  5  5  6  7  7  7  7  7 15 11 14 13 28
128: 20 22 20 20 22 22 22 23 22 23 23 23 23 23 24 23
144: 24 24 22 23 24 23 23 23 23 21 22 23 22 23 23 24
160: 22 21 20 22 22 23 23 21 23 22 22 24 21 22 23 23
176: 21 21 22 21 23 22 23 23 20 22 22 22 23 22 22 23
192: 26 26 20 19 22 23 22 25 26 26 26 27 27 26 24 25
208: 19 21 26 27 27 26 27 24 21 21 26 26 28 27 27 27
224: 20 24 20 21 22 21 21 23 22 22 25 25 24 24 26 23
240: 26 27 26 26 27 27 27 27 27 28 27 27 27 27 27 26
256: 30
`

// theEnd: the number of the word that stands for nothing.
const theEnd = 256

// code: the words, as texts of 0 and 1.
var code = plainCode()

// sizesOf: the numbers of printed rows, what stands ahead of each row aside.
func sizesOf(printed string) (sizes []int) {
	for row := range strings.Lines(printed) {
		_, row, _ = strings.Cut(row, ":")
		for _, field := range strings.Fields(row) {
			n, err := strconv.Atoi(field)
			if err != nil {
				panic(err)
			}
			sizes = append(sizes, n)
		}
	}
	return sizes
}

// plainCode: the words, one after the other as the chapter orders them.
func plainCode() []string {
	sizes := sizesOf(printedSizes)
	if len(sizes) != theEnd+1 {
		panic("rows are missing")
	}
	words := make([]string, len(sizes))
	next := ""
	for size := range slices.Max(sizes) + 1 {
		for n := range sizes {
			if sizes[n] == size {
				next += strings.Repeat("0", size-len(next))
				words[n] = next
				next = oneMore(next)
			}
		}
	}
	return words
}

// oneMore: the bits of a number and 1; of the last number that has so many, some that nobody asks for.
func oneMore(bits string) string {
	ones := len(bits) - len(strings.TrimRight(bits, "1"))
	ahead := bits[:len(bits)-ones]
	return strings.TrimSuffix(ahead, "0") + "1" + strings.Repeat("0", ones)
}

// bitsOfText: the words of a text's bytes, one behind the other.
func bitsOfText(s string) string {
	var b strings.Builder
	for _, x := range []byte(s) {
		b.WriteString(code[x])
	}
	return b.String()
}

// bitsOfBytes: all of them, the highest bit of each byte first.
func bitsOfBytes(b []byte) string {
	var bits strings.Builder
	for _, x := range b {
		for mask := byte(128); mask > 0; mask /= 2 {
			if x&mask == 0 {
				bits.WriteByte('0')
			} else {
				bits.WriteByte('1')
			}
		}
	}
	return bits.String()
}

// asBytes: bits, filled with ones.
func asBytes(bits string) []byte {
	b := []byte{}
	for len(bits)%8 != 0 {
		bits += "1"
	}
	for at := 0; at < len(bits); at += 8 {
		x, err := strconv.ParseUint(bits[at:at+8], 2, 8)
		if err != nil {
			panic(err)
		}
		b = append(b, byte(x))
	}
	return b
}

// plainPut: as the chapter's words tell it.
func plainPut(s string) ([]byte, api.Errno) {
	if len(s) > 65536 {
		return nil, api.ErrLimit
	}
	return asBytes(bitsOfText(s)), api.OK
}

// plainGet: as the chapter's words tell it. It takes its time.
func plainGet(b []byte) (string, api.Errno) {
	if len(b) > 1048576 {
		return "", api.ErrLimit
	}
	text := ""
	rest := bitsOfBytes(b)
	for {
		n := slices.IndexFunc(code, func(word string) bool { return strings.HasPrefix(rest, word) })
		if n == theEnd {
			return "", api.ErrForm
		}
		if n < 0 {
			break
		}
		text += string([]byte{byte(n)})
		rest = rest[len(code[n]):]
	}
	if len(rest) >= 8 || strings.Contains(rest, "0") {
		return "", api.ErrForm
	}
	return text, api.OK
}
