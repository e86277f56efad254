package huff

import (
	"slices"
	"testing"
)

// printedWords: the words of the code as RFC 7541, appendix B, prints them, without the noughts ahead.
var printedWords = [257]uint32{
	0x1ff8, 0x7fffd8, 0xfffffe2, 0xfffffe3, 0xfffffe4, 0xfffffe5, 0xfffffe6, 0xfffffe7,
	0xfffffe8, 0xffffea, 0x3ffffffc, 0xfffffe9, 0xfffffea, 0x3ffffffd, 0xfffffeb, 0xfffffec,
	0xfffffed, 0xfffffee, 0xfffffef, 0xffffff0, 0xffffff1, 0xffffff2, 0x3ffffffe, 0xffffff3,
	0xffffff4, 0xffffff5, 0xffffff6, 0xffffff7, 0xffffff8, 0xffffff9, 0xffffffa, 0xffffffb,
	0x14, 0x3f8, 0x3f9, 0xffa, 0x1ff9, 0x15, 0xf8, 0x7fa,
	0x3fa, 0x3fb, 0xf9, 0x7fb, 0xfa, 0x16, 0x17, 0x18,
	0x0, 0x1, 0x2, 0x19, 0x1a, 0x1b, 0x1c, 0x1d,
	0x1e, 0x1f, 0x5c, 0xfb, 0x7ffc, 0x20, 0xffb, 0x3fc,
	0x1ffa, 0x21, 0x5d, 0x5e, 0x5f, 0x60, 0x61, 0x62,
	0x63, 0x64, 0x65, 0x66, 0x67, 0x68, 0x69, 0x6a,
	0x6b, 0x6c, 0x6d, 0x6e, 0x6f, 0x70, 0x71, 0x72,
	0xfc, 0x73, 0xfd, 0x1ffb, 0x7fff0, 0x1ffc, 0x3ffc, 0x22,
	0x7ffd, 0x3, 0x23, 0x4, 0x24, 0x5, 0x25, 0x26,
	0x27, 0x6, 0x74, 0x75, 0x28, 0x29, 0x2a, 0x7,
	0x2b, 0x76, 0x2c, 0x8, 0x9, 0x2d, 0x77, 0x78,
	0x79, 0x7a, 0x7b, 0x7ffe, 0x7fc, 0x3ffd, 0x1ffd, 0xffffffc,
	0xfffe6, 0x3fffd2, 0xfffe7, 0xfffe8, 0x3fffd3, 0x3fffd4, 0x3fffd5, 0x7fffd9,
	0x3fffd6, 0x7fffda, 0x7fffdb, 0x7fffdc, 0x7fffdd, 0x7fffde, 0xffffeb, 0x7fffdf,
	0xffffec, 0xffffed, 0x3fffd7, 0x7fffe0, 0xffffee, 0x7fffe1, 0x7fffe2, 0x7fffe3,
	0x7fffe4, 0x1fffdc, 0x3fffd8, 0x7fffe5, 0x3fffd9, 0x7fffe6, 0x7fffe7, 0xffffef,
	0x3fffda, 0x1fffdd, 0xfffe9, 0x3fffdb, 0x3fffdc, 0x7fffe8, 0x7fffe9, 0x1fffde,
	0x7fffea, 0x3fffdd, 0x3fffde, 0xfffff0, 0x1fffdf, 0x3fffdf, 0x7fffeb, 0x7fffec,
	0x1fffe0, 0x1fffe1, 0x3fffe0, 0x1fffe2, 0x7fffed, 0x3fffe1, 0x7fffee, 0x7fffef,
	0xfffea, 0x3fffe2, 0x3fffe3, 0x3fffe4, 0x7ffff0, 0x3fffe5, 0x3fffe6, 0x7ffff1,
	0x3ffffe0, 0x3ffffe1, 0xfffeb, 0x7fff1, 0x3fffe7, 0x7ffff2, 0x3fffe8, 0x1ffffec,
	0x3ffffe2, 0x3ffffe3, 0x3ffffe4, 0x7ffffde, 0x7ffffdf, 0x3ffffe5, 0xfffff1, 0x1ffffed,
	0x7fff2, 0x1fffe3, 0x3ffffe6, 0x7ffffe0, 0x7ffffe1, 0x3ffffe7, 0x7ffffe2, 0xfffff2,
	0x1fffe4, 0x1fffe5, 0x3ffffe8, 0x3ffffe9, 0xffffffd, 0x7ffffe3, 0x7ffffe4, 0x7ffffe5,
	0xfffec, 0xfffff3, 0xfffed, 0x1fffe6, 0x3fffe9, 0x1fffe7, 0x1fffe8, 0x7ffff3,
	0x3fffea, 0x3fffeb, 0x1ffffee, 0x1ffffef, 0xfffff4, 0xfffff5, 0x3ffffea, 0x7ffff4,
	0x3ffffeb, 0x7ffffe6, 0x3ffffec, 0x3ffffed, 0x7ffffe7, 0x7ffffe8, 0x7ffffe9, 0x7ffffea,
	0x7ffffeb, 0xffffffe, 0x7ffffec, 0x7ffffed, 0x7ffffee, 0x7ffffef, 0x7fffff0, 0x3ffffee,
	0x3fffffff,
}

// P10.1: the words are those that the RFC prints, each with the bits that the chapter says.
func TestWordsAsPrinted(t *testing.T) {
	sizes := wordSizes()
	for n, w := range words() {
		if w.size != sizes[n] || w.value != printedWords[n] {
			t.Errorf("the word %d is %x, of %d bits; want %x, of %d", n, w.value, w.size, printedWords[n], sizes[n])
		}
	}
}

// P10.1: the words in order are each the one ahead and 1, with noughts behind.
func TestWordsInOrder(t *testing.T) {
	code := words()
	order := make([]int, len(code))
	for n := range order {
		order[n] = n
	}
	slices.SortStableFunc(order, func(a, b int) int { return code[a].size - code[b].size })
	ahead := code[order[0]]
	if ahead.size != 5 || ahead.value != 0 {
		t.Errorf("the first word is %v", ahead)
	}
	for _, n := range order[1:] {
		w := code[n]
		if want := (ahead.value + 1) << (w.size - ahead.size); w.value != want {
			t.Errorf("the word %d is %x; want %x", n, w.value, want)
		}
		ahead = w
	}
	if last := order[len(order)-1]; last != end || ahead != (word{size: longest, value: 1<<longest - 1}) {
		t.Errorf("the last word is %d: %v", last, ahead)
	}
}

// P10.3: no word begins another one.
func TestNoWordBeginsAnother(t *testing.T) {
	code := words()
	for i, a := range code {
		for k, b := range code {
			if i != k && a.size <= b.size && b.value>>(b.size-a.size) == a.value {
				t.Errorf("the word %d begins the word %d", i, k)
			}
		}
	}
}

// P10.2: whatever bits there are, a word stands there as soon as there are as many as the longest has: the words leave no gap.
func TestWordsLeaveNoGap(t *testing.T) {
	all := 0
	for _, w := range words() {
		all += 1 << (longest - w.size)
	}
	if all != 1<<longest {
		t.Errorf("%d of %d rows of bits begin with a word", all, 1<<longest)
	}
}

// P10.2: each word is found by its bits; no part of a word is, and none with a bit more.
func TestNumbers(t *testing.T) {
	known := numbers()
	if len(known) != end+1 {
		t.Errorf("%d words are known", len(known))
	}
	for n, w := range words() {
		if got, is := known[w]; got != n || !is {
			t.Errorf("the word %d is found as %d, %v", n, got, is)
		}
		for cut := 1; cut <= w.size; cut++ {
			if got, is := known[word{size: w.size - cut, value: w.value >> cut}]; is {
				t.Errorf("the word %d without %d bits is found as %d", n, cut, got)
			}
		}
		for bit := range uint32(2) {
			if got, is := known[w.with(bit)]; is {
				t.Errorf("the word %d with a bit more is found as %d", n, got)
			}
		}
	}
}

// P10.2: up to seven ones fill a last byte; eight don't, and nothing with a nought.
func TestFills(t *testing.T) {
	for size := range longest + 1 {
		for value := range uint32(1 << min(size, 10)) {
			want := size <= 7 && value+1 == 1<<size
			if got := (word{size: size, value: value}).fills(); got != want {
				t.Errorf("%d bits, %b: %v", size, value, got)
			}
		}
		if ones := (word{size: size, value: 1<<size - 1}); ones.fills() != (size < 8) {
			t.Errorf("%d ones: %v", size, ones.fills())
		}
	}
}

// Bits come in their order, with their places, and no longer than they are asked for; a word of no bits has none.
func TestBits(t *testing.T) {
	row := slices.Values([]word{{size: 3, value: 6}, {}, {size: 1, value: 0}, {size: 2, value: 3}})
	want := []uint32{1, 1, 0, 0, 1, 1}
	for stop := 1; stop <= len(want)+1; stop++ {
		var got []uint32
		for at, bit := range bits(row) {
			if at != len(got) {
				t.Errorf("the place %d comes as %d", len(got), at)
			}
			got = append(got, bit)
			if len(got) == stop {
				break
			}
		}
		if !slices.Equal(got, want[:min(stop, len(want))]) {
			t.Errorf("%d bits asked for: %d", stop, got)
		}
	}
}

// A text's bits are no longer reckoned than they are asked for.
func TestBitsOfText(t *testing.T) {
	var got []uint32
	for at, bit := range bits(inCode("a text")) {
		got = append(got, bit)
		if at == 6 {
			break
		}
	}
	if want := []uint32{0, 0, 0, 1, 1, 0, 1}; !slices.Equal(got, want) { // a is 00011, a blank 010100
		t.Errorf("the bits are %d; want %d", got, want)
	}
}
