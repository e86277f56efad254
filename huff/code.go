package huff

// end: the number of the word that stands for no byte. longest: the most bits that a word has.
const (
	end     = 256
	longest = 30
)

// word: so many bits, which are the lowest ones of a number.
type word struct {
	size  int
	value uint32
}

// with: a word, and one bit more behind it.
func (w word) with(bit uint32) word {
	return word{size: w.size + 1, value: w.value<<1 | bit}
}

// fills: may these bits be what fills a last byte?
func (w word) fills() bool {
	return w.size < 8 && w.value == 1<<w.size-1
}

// words: the code, by the numbers of its words.
func words() [end + 1]word {
	sizes := wordSizes()
	next := firsts(sizes)
	var code [end + 1]word
	for n, size := range sizes {
		code[n] = word{size: size, value: next[size]}
		next[size]++
	}
	return code
}

// firsts: by sizes, the first word that has so many bits; where none has, the one that would come. Words of one size are numbers side by side, so that how many there are tells where the next size begins.
func firsts(sizes [end + 1]int) [longest + 1]uint32 {
	var many [longest + 1]uint32
	for _, size := range sizes {
		many[size]++
	}
	var first [longest + 1]uint32
	for size := 1; size <= longest; size++ {
		first[size] = (first[size-1] + many[size-1]) << 1
	}
	return first
}

// numbers: the bytes that words stand for, and the end, by their bits.
func numbers() map[word]int {
	known := make(map[word]int, end+1)
	for n, w := range words() {
		known[w] = n
	}
	return known
}

// wordSizes: how many bits each word has.
func wordSizes() [end + 1]int {
	return [end + 1]int{
		13, 23, 28, 28, 28, 28, 28, 28, 28, 24, 30, 28, 28, 30, 28, 28,
		28, 28, 28, 28, 28, 28, 30, 28, 28, 28, 28, 28, 28, 28, 28, 28,
		6, 10, 10, 12, 13, 6, 8, 11, 10, 10, 8, 11, 8, 6, 6, 6,
		5, 5, 5, 6, 6, 6, 6, 6, 6, 6, 7, 8, 15, 6, 12, 10,
		13, 6, 7, 7, 7, 7, 7, 7, 7, 7, 7, 7, 7, 7, 7, 7,
		7, 7, 7, 7, 7, 7, 7, 7, 8, 7, 8, 13, 19, 13, 14, 6,
		15, 5, 6, 5, 6, 5, 6, 6, 6, 5, 7, 7, 6, 6, 6, 5,
		6, 7, 6, 5, 5, 6, 7, 7, 7, 7, 7, 15, 11, 14, 13, 28,
		20, 22, 20, 20, 22, 22, 22, 23, 22, 23, 23, 23, 23, 23, 24, 23,
		24, 24, 22, 23, 24, 23, 23, 23, 23, 21, 22, 23, 22, 23, 23, 24,
		22, 21, 20, 22, 22, 23, 23, 21, 23, 22, 22, 24, 21, 22, 23, 23,
		21, 21, 22, 21, 23, 22, 23, 23, 20, 22, 22, 22, 23, 22, 22, 23,
		26, 26, 20, 19, 22, 23, 22, 25, 26, 26, 26, 27, 27, 26, 24, 25,
		19, 21, 26, 27, 27, 26, 27, 24, 21, 21, 26, 26, 28, 27, 27, 27,
		20, 24, 20, 21, 22, 21, 21, 23, 22, 22, 25, 25, 24, 24, 26, 23,
		26, 27, 26, 26, 27, 27, 27, 27, 27, 28, 27, 27, 27, 27, 27, 26,
		30,
	}
}
