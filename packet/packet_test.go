package packet_test

import (
	"bytes"
	"crypto/sha256"
	"encoding/hex"
	"math"
	"math/rand"
	"strings"
	"sync"
	"testing"

	"mailcoach/api"
	"mailcoach/keys"
	"mailcoach/packet"
)

// chapterPacket: that of the chapter's examples, and of RFC 9001 (A.5).
const chapterPacket = "4cfe4189655e5cd55c41f69080575d7999c25a5bfb"

func unhex(t *testing.T, s string) []byte {
	t.Helper()
	b, err := hex.DecodeString(strings.Join(strings.Fields(s), ""))
	if err != nil {
		t.Fatal(err)
	}
	return b
}

// chapterKeys: K of the chapter's examples.
func chapterKeys(t *testing.T) api.Keys {
	t.Helper()
	k, e := keys.Of(unhex(t, "9ac312a7f877468ebe69422748ad00a15443f18203a07d6060f688f30f21632b"))
	if e != api.OK {
		t.Fatal(e)
	}
	return k
}

// some bytes, the same ones for the same size and seed.
func some(size int, seed int64) []byte {
	b := make([]byte, size)
	rand.New(rand.NewSource(seed)).Read(b)
	return b
}

// up: so many bytes 00 01 02 .. fa 00 ..
func up(size int) []byte {
	b := make([]byte, size)
	for i := range b {
		b[i] = byte(i % 251)
	}
	return b
}

// someKeys: of so many bytes as they must be.
func someKeys(seed int64) api.Keys {
	return api.Keys{Key: some(32, seed), IV: some(12, seed+1), Mask: some(32, seed+2)}
}

// before: a number that came ahead of all those of someHeaders, so near that a byte tells them.
const before = 69999

// someHeaders: of both kinds; names of no byte, of one, of some and of as many as may be.
func someHeaders() (l []api.Header) {
	for _, to := range [][]byte{nil, {9}, some(8, 1), some(19, 2), some(20, 3)} {
		l = append(l, api.Header{To: to, Number: 70000}, api.Header{To: to, Number: 70001, Phase: true})
		for _, from := range [][]byte{nil, {0}, some(7, 4), some(20, 5)} {
			l = append(l, api.Header{Long: true, To: to, From: from, Number: 70002})
		}
	}
	return l
}

// shortest: the least payload that may be beside a number of n bytes.
func shortest(n int) []byte { return up(max(1, 4-n)) }

// seals: a packet is sealed as these bytes.
func seals(t *testing.T, h api.Header, n int, payload []byte, k api.Keys, want []byte) {
	t.Helper()
	if b, e := packet.Seal(h, n, payload, k); e != api.OK || !bytes.Equal(b, want) {
		t.Errorf("Seal(%+v, %d, %d bytes): %.80x of %d, %d; want %.80x of %d", h, n, len(payload), b, len(b), e, want, len(want))
	}
}

// notSealed: a packet is not sealed.
func notSealed(t *testing.T, h api.Header, n int, payload []byte, k api.Keys, want api.Errno) {
	t.Helper()
	if b, e := packet.Seal(h, n, payload, k); e != want || len(b) != 0 {
		t.Errorf("Seal(%+v, %d, %d bytes): %.80x of %d, %d; want %d", h, n, len(payload), b, len(b), e, want)
	}
}

// opens: of these bytes this is opened.
func opens(t *testing.T, b []byte, to int, k api.Keys, came int64, want result) {
	t.Helper()
	if got := open(b, to, k, came); !got.same(want) {
		t.Errorf("Open(%.80x of %d, %d, %d): %+v, %.40x of %d, %d, %d; want %+v, %.40x of %d, %d, %d",
			b, len(b), to, came, got.h, got.payload, len(got.payload), got.size, got.e, want.h, want.payload, len(want.payload), want.size, want.e)
	}
}

// notOpened: these bytes are refused, and nothing is told beside that.
func notOpened(t *testing.T, b []byte, to int, k api.Keys, came int64, want api.Errno) {
	t.Helper()
	opens(t, b, to, k, came, result{e: want})
}

// P13.1, P13.2, P13.3: the chapter's examples; those of numbers stand in TestNumberExamples.
func TestExamples(t *testing.T) {
	k := chapterKeys(t)
	h := api.Header{Number: 654360564}
	b := unhex(t, chapterPacket)
	seals(t, h, 3, []byte{1}, k, b)
	opens(t, b, 0, k, 654360563, result{h, []byte{1}, 21, api.OK})
	for bit := range 8 {
		other := bytes.Clone(b)
		other[len(b)-1] ^= 1 << bit
		notOpened(t, other, 0, k, 654360563, api.ErrTag)
	}
	notOpened(t, nil, 0, k, 654360563, api.ErrShort)
	notOpened(t, []byte{}, 0, k, 654360563, api.ErrShort)
}

// P13.2, P13.3: packets that were worked out elsewhere.
func TestWorkedOutElsewhere(t *testing.T) {
	k := chapterKeys(t)
	down := up(20)
	for i := range down {
		down[i] = byte(19 - i)
	}
	for _, row := range []struct {
		h       api.Header
		n       int
		payload string
		came    int64
		want    string
	}{
		{api.Header{Long: true, To: []byte{1, 2}, From: []byte{3}, Number: 7}, 2, "hello", 6, "c90000000102010201030040170a1687f982b082e487d6620736f4e306f41f095c6d032d"},
		{api.Header{Long: true}, 1, "abc", -1, "cb000000010000004014e122703212994ba81442bd522fea834b50b75478"},
		{api.Header{Long: true, To: up(20), From: down, Number: api.MaxNumber}, 4, "x", api.MaxNumber - 1, "ce0000000114000102030405060708090a0b0c0d0e0f1011121314131211100f0e0d0c0b0a09080706050403020100004015d37714e662e7fc27e5bed7be8b0ddfcb94a826656b"},
		{api.Header{To: []byte{9}, Number: 300, Phase: true}, 4, "\x05", 0, "4c09879a2e7fa5ad4db422736e8e95db0c567fef66f24f"},
		{api.Header{To: up(20), Number: api.MaxNumber}, 1, "abc", api.MaxNumber - 128, "47000102030405060708090a0b0c0d0e0f10111213bf7b3fb8f6fc2b79f6e85b844962d3f378280faa"},
		{api.Header{Phase: true}, 2, "ab", -1, "547a842270b78c20fc0286024748f6be0d8b37dba1"},
	} {
		b := unhex(t, row.want)
		seals(t, row.h, row.n, []byte(row.payload), k, b)
		opens(t, b, len(row.h.To), k, row.came, result{row.h, []byte(row.payload), len(b), api.OK})
	}
}

// P13.2: packets of just MaxPacket bytes, worked out elsewhere (their sums are told); one byte more is too much.
func TestGreatestWorkedOutElsewhere(t *testing.T) {
	k := chapterKeys(t)
	for _, row := range []struct {
		h    api.Header
		n    int
		size int
		want string
	}{
		{api.Header{Number: 1}, 1, 1182, "3222f4013ace73f78c7c5462f43ae767cd92e8cb33f94777bd865abd43be3051"},
		{api.Header{Long: true, To: up(20), From: up(20), Number: 0x0102030405060708}, 3, 1131, "9528788f927f7ad59610210e294bca97ead88f365501a995bc83dde1066d3d97"},
	} {
		b, e := packet.Seal(row.h, row.n, up(row.size), k)
		sum := sha256.Sum256(b)
		if e != api.OK || len(b) != api.MaxPacket || hex.EncodeToString(sum[:]) != row.want {
			t.Errorf("%+v: %.80x of %d, %d", row.h, b, len(b), e)
		}
		opens(t, b, len(row.h.To), k, int64(row.h.Number)-1, result{row.h, up(row.size), api.MaxPacket, api.OK})
		notSealed(t, row.h, row.n, up(row.size+1), k, api.ErrLimit)
	}
}

// sealedAndOpened: what is sealed has the chapter's bytes, and is opened as what it was.
func sealedAndOpened(t *testing.T, h api.Header, n int, payload []byte, k api.Keys) {
	t.Helper()
	want := plainSeal(h, n, payload, k)
	seals(t, h, n, payload, k, want)
	opens(t, want, len(h.To), k, int64(h.Number)-1, result{h, payload, len(want), api.OK})
}

// P13.2, P13.3: every n, beside the least payload that may be and greater ones, in headers of both kinds.
func TestSealAndOpen(t *testing.T) {
	for i, h := range someHeaders() {
		k := someKeys(int64(i))
		for n := 1; n <= 4; n++ {
			sealedAndOpened(t, h, n, shortest(n), k)
			for _, size := range []int{3, 4, 15, 16, 17, 42, 43, 44, 45, 46, 47, 48, 63, 64, 65, 500, 1000} {
				sealedAndOpened(t, h, n, some(size, int64(size)), k)
			}
		}
	}
}

// P13.2, P13.3: names of every length that may be.
func TestNames(t *testing.T) {
	k := someKeys(10)
	for to := range 21 {
		sealedAndOpened(t, api.Header{To: some(to, 11), Number: 5}, 1+to%4, up(9), k)
		for from := range 21 {
			sealedAndOpened(t, api.Header{Long: true, To: some(to, 12), From: some(from, 13), Number: 5}, 1+from%4, up(9), k)
		}
	}
}

// P13.2, P13.3: numbers at the edges of bytes, the least and the greatest; just their lowest bytes are told.
func TestNumbersInPackets(t *testing.T) {
	k := someKeys(20)
	for _, number := range edges() {
		if number > api.MaxNumber {
			continue
		}
		for n := 1; n <= 4; n++ {
			sealedAndOpened(t, api.Header{Number: number}, n, up(9), k)
			sealedAndOpened(t, api.Header{Long: true, To: up(3), Number: number}, n, up(9), k)
		}
	}
}

// headSize: how many bytes are ahead of what is sealed.
func headSize(h api.Header, n int) int {
	if h.Long {
		return 1 + 4 + 1 + len(h.To) + 1 + len(h.From) + 1 + 2 + n
	}
	return 1 + len(h.To) + n
}

// P13.2: of every header and n, a packet of just MaxPacket bytes is sealed, of one less too; of more bytes none is.
func TestSealLimit(t *testing.T) {
	k := someKeys(30)
	for _, h := range someHeaders() {
		for n := 1; n <= 4; n++ {
			most := api.MaxPacket - 16 - headSize(h, n)
			sealedAndOpened(t, h, n, up(most), k)
			sealedAndOpened(t, h, n, up(most-1), k)
			for _, more := range []int{1, 2, 16, 17, 20, 100, 1 << 14, 1 << 16, api.MaxBytes, api.MaxBytes + 1, 1 << 24} {
				notSealed(t, h, n, make([]byte, most+more), k, api.ErrLimit)
			}
		}
	}
}

// P13.2: n that is not 1 to 4: ErrArg, also beside a payload that is too great.
func TestSealWrongN(t *testing.T) {
	k := someKeys(40)
	for _, n := range []int{math.MinInt, math.MinInt + 1, -256, -4, -1, 0, 5, 6, 8, 256 + 1, 1<<32 + 1, math.MaxInt - 1, math.MaxInt} {
		for _, size := range []int{0, 1, 3, 4, 9, 1200, api.MaxBytes + 1} {
			notSealed(t, api.Header{}, n, make([]byte, size), k, api.ErrArg)
			notSealed(t, api.Header{Long: true}, n, make([]byte, size), k, api.ErrArg)
		}
	}
}

// P13.2: a payload that is empty, or has fewer than 4 - n bytes: ErrArg; one more byte is enough.
func TestSealShortPayload(t *testing.T) {
	k := someKeys(50)
	for _, h := range someHeaders() {
		for n := 1; n <= 4; n++ {
			for size := range shortest(n) {
				notSealed(t, h, n, make([]byte, size), k, api.ErrArg)
				notSealed(t, h, n, make([]byte, 100)[:size], k, api.ErrArg)
			}
			notSealed(t, h, n, nil, k, api.ErrArg)
			sealedAndOpened(t, h, n, shortest(n), k)
		}
	}
}

// wrongHeaders: those that may not be.
func wrongHeaders() (l []api.Header) {
	for _, size := range []int{21, 22, 255, 256, 256 + 5, 1200, 65536 + 1} {
		l = append(l, api.Header{To: make([]byte, size)}, api.Header{Long: true, To: make([]byte, size)}, api.Header{Long: true, From: make([]byte, size)})
		l = append(l, api.Header{From: make([]byte, size)}, api.Header{Long: true, To: make([]byte, size), From: make([]byte, size)})
	}
	for _, number := range []uint64{api.MaxNumber + 1, api.MaxNumber + 2, 1 << 63, 1<<63 + 5, math.MaxUint64} {
		l = append(l, api.Header{Number: number}, api.Header{Number: number, Phase: true}, api.Header{Long: true, Number: number})
	}
	for _, size := range []int{1, 2, 8, 20} {
		l = append(l, api.Header{From: make([]byte, size)}, api.Header{To: up(size), From: make([]byte, size)}, api.Header{From: make([]byte, size), Phase: true})
	}
	return append(l, api.Header{Long: true, Phase: true}, api.Header{Long: true, To: up(20), From: up(20), Phase: true})
}

// P13.2: a header that may not be: ErrArg, also beside a payload that is too great.
func TestSealWrongHeader(t *testing.T) {
	k := someKeys(60)
	for _, h := range wrongHeaders() {
		for n := 1; n <= 4; n++ {
			for _, size := range []int{0, 4, 9, 1200, api.MaxBytes + 1} {
				notSealed(t, h, n, make([]byte, size), k, api.ErrArg)
			}
		}
	}
}

// wrongKeys: one of the three, or all, having fewer bytes or more than it must.
func wrongKeys() (l []api.Keys) {
	whole := some(70000, 70)
	for _, size := range []int{0, 1, 11, 13, 16, 31, 33, 64, 256 + 32, 65536 + 12} {
		l = append(l, api.Keys{Key: whole[:size], IV: whole[:12], Mask: whole[:32]}, api.Keys{Key: whole[:32], IV: whole[:size], Mask: whole[:32]}, api.Keys{Key: whole[:32], IV: whole[:12], Mask: whole[:size]})
	}
	return append(l, api.Keys{}, api.Keys{Key: whole[:12], IV: whole[:12], Mask: whole[:12]}, api.Keys{Key: whole[:32], IV: whole[:32], Mask: whole[:32]},
		api.Keys{IV: whole[:12], Mask: whole[:32]}, api.Keys{Key: whole[:32], Mask: whole[:32]}, api.Keys{Key: whole[:32], IV: whole[:12]})
}

// P13.2: keys that have not their bytes: ErrArg, ahead of ErrLimit.
func TestSealWrongKeys(t *testing.T) {
	for _, k := range wrongKeys() {
		for _, size := range []int{0, 1, 9, 1182, 1183, api.MaxBytes, api.MaxBytes + 1} {
			notSealed(t, api.Header{}, 1, make([]byte, size), k, api.ErrArg)
			notSealed(t, api.Header{Long: true}, 4, make([]byte, size), k, api.ErrArg)
		}
	}
}

// P13.2: each thing that is handed in makes another packet: no part is left out of what is sealed.
func TestSealHangsOnEach(t *testing.T) {
	k, other := someKeys(80), someKeys(81)
	h := api.Header{Long: true, To: []byte{1}, From: []byte{2}, Number: 3}
	seen := map[string]bool{}
	count := 0
	add := func(h api.Header, n int, payload string, k api.Keys) {
		t.Helper()
		b, e := packet.Seal(h, n, []byte(payload), k)
		if e != api.OK {
			t.Fatal(e)
		}
		seen[string(b)] = true
		count++
	}
	add(h, 1, "abcd", k)
	add(h, 2, "abcd", k)
	add(h, 1, "abce", k)
	add(h, 1, "abc", k)
	add(api.Header{Long: true, To: []byte{2}, From: []byte{2}, Number: 3}, 1, "abcd", k)
	add(api.Header{Long: true, To: []byte{1}, From: []byte{1}, Number: 3}, 1, "abcd", k)
	add(api.Header{Long: true, To: []byte{1}, From: []byte{2}, Number: 3 + 256}, 1, "abcd", k)
	add(api.Header{To: []byte{1}, Number: 3}, 1, "abcd", k)
	add(api.Header{To: []byte{1}, Number: 3, Phase: true}, 1, "abcd", k)
	add(h, 1, "abcd", api.Keys{Key: other.Key, IV: k.IV, Mask: k.Mask})
	add(h, 1, "abcd", api.Keys{Key: k.Key, IV: other.IV, Mask: k.Mask})
	add(h, 1, "abcd", api.Keys{Key: k.Key, IV: k.IV, Mask: other.Mask})
	if len(seen) != count {
		t.Errorf("%d packets of %d", len(seen), count)
	}
}

// P13.4: what was sealed is opened when any number from the answered one on, below its own, came; by n of Short, or more.
func TestSealedIsOpened(t *testing.T) {
	check := func(number uint64, answered int64) {
		t.Helper()
		least, e := packet.Short(number, answered)
		if e != api.OK {
			t.Fatalf("Short(%d, %d): %d", number, answered, e)
		}
		last := int64(number) - 1
		k := someKeys(int64(number % 100))
		for n := least; n <= 4; n++ {
			for _, h := range []api.Header{{To: up(8), Number: number}, {Number: number, Phase: true}, {Long: true, To: up(20), From: up(8), Number: number}} {
				payload := some(4+int(number%50), answered)
				b, e := packet.Seal(h, n, payload, k)
				if e != api.OK {
					t.Fatalf("Seal(%+v, %d): %d", h, n, e)
				}
				for _, came := range []int64{answered, answered + (last-answered)/2, last} {
					opens(t, b, len(h.To), k, came, result{h, payload, len(b), api.OK})
				}
			}
		}
	}
	for number := range uint64(20) {
		check(number, -1)
	}
	for n := 1; n <= 4; n++ {
		most := uint64(1) << (8*n - 1)
		for _, number := range []uint64{most - 1, 2*most - 1, 2 * most, 3 * most, 1<<40 + most, api.MaxNumber - most, api.MaxNumber} {
			check(number, int64(number-1))
			check(number, int64(number-most))
			check(number, int64(number-most/2-1))
		}
	}
	check(0, -1<<62)
	check(127, -1<<62)
}

// P13.4, P13.2, P13.3: many packets, as they come.
func TestManyPackets(t *testing.T) {
	r := rand.New(rand.NewSource(90))
	for i := range 3000 {
		number := r.Uint64() >> (2 + r.Intn(62))
		answered := int64(number) - 1 - r.Int63n(1<<(1+r.Intn(30)))
		n, e := packet.Short(number, answered)
		if e != api.OK {
			t.Fatalf("Short(%d, %d): %d", number, answered, e)
		}
		n += r.Intn(5 - n)
		h := api.Header{Long: r.Intn(2) == 0, To: some(r.Intn(21), int64(i)), Number: number}
		if h.Long {
			h.From = some(r.Intn(21), int64(i)+1)
		} else {
			h.Phase = r.Intn(2) == 0
		}
		payload := some(4+r.Intn(1100), int64(i)+2)
		k := someKeys(int64(i))
		want := plainSeal(h, n, payload, k)
		seals(t, h, n, payload, k, want)
		came := answered + r.Int63n(int64(number)-answered)
		opens(t, want, len(h.To), k, came, result{h, payload, len(want), api.OK})
	}
}

// roomy: bytes with other bytes in their spare room.
func roomy(b []byte) []byte {
	wide := append(append([]byte{}, b...), some(64, int64(len(b)))...)
	return wide[:len(b)]
}

// R4: what is handed in stays as it was, the spare room behind it too; with errors as well.
func TestHandedInStays(t *testing.T) {
	for _, size := range []int{0, 1, 9, 1100, 1183, 5000} {
		for i, h := range append(someHeaders(), wrongHeaders()[0], api.Header{Long: true, Phase: true}) {
			k := someKeys(int64(i))
			sealed := plainSeal(api.Header{Long: h.Long, To: up(20), Number: 3}, 2, up(50), k)
			broken := bytes.Clone(sealed)
			broken[len(broken)-1]++
			lists := [][]byte{roomy(h.To), roomy(h.From), roomy(up(size)), roomy(k.Key), roomy(k.IV), roomy(k.Mask), roomy(sealed), roomy(broken)}
			var before [][]byte
			for _, list := range lists {
				before = append(before, bytes.Clone(list[:cap(list)]))
			}
			h.To, h.From = lists[0], lists[1]
			k = api.Keys{Key: lists[3], IV: lists[4], Mask: lists[5]}
			for n := range 6 {
				packet.Seal(h, n, lists[2], k)
			}
			for _, b := range lists {
				packet.Open(b, 20, k, 2)
				packet.Open(b, 0, k, -1)
				packet.Open(b, 21, k, 2)
			}
			if e := open(lists[6], 20, k, 2).e; e != api.OK {
				t.Fatal(e)
			}
			for place, list := range lists {
				if !bytes.Equal(list[:cap(list)], before[place]) {
					t.Errorf("%+v, %d bytes: list %d, or the room behind it, was changed", h, size, place)
				}
			}
		}
	}
}

// fill changes an answer and its spare room.
func fill(b []byte) {
	b = b[:cap(b)]
	for i := range b {
		b[i] = 0xee
	}
}

// R4: an answer is memory of its own: changing it, its spare room too, changes no argument and no other answer.
func TestAnswersAreNewMemory(t *testing.T) {
	for i, h := range someHeaders() {
		k := someKeys(int64(i))
		payload := some(40, 100)
		b, _ := packet.Seal(h, 2, payload, k)
		kept := bytes.Clone(b)
		again, _ := packet.Seal(h, 2, payload, k)
		fill(again)
		if want := plainSeal(h, 2, some(40, 100), someKeys(int64(i))); !bytes.Equal(b, kept) || !bytes.Equal(b, want) {
			t.Errorf("%+v: what was sealed changes with another answer", h)
		}
		seals(t, h, 2, payload, k, kept)
		want := result{h, some(40, 100), len(kept), api.OK}
		first := open(b, len(h.To), k, before)
		for changed := range 3 {
			got := open(b, len(h.To), k, before)
			lists := [][]byte{got.h.To, got.h.From, got.payload}
			fill(lists[changed])
			for place, same := range [][]byte{h.To, h.From, some(40, 100)} {
				if place != changed && !bytes.Equal(lists[place], same) {
					t.Errorf("%+v: list %d changes with list %d", h, place, changed)
				}
			}
			if !bytes.Equal(b, kept) || !first.same(want) {
				t.Errorf("%+v: what was handed in, or opened before, changes with list %d", h, changed)
			}
		}
		fill(b)
		if !first.same(want) {
			t.Errorf("%+v: what was opened changes with what was handed in", h)
		}
	}
}

// R4, R5: what is told hangs on what is handed in, as it is at the call, not on its room, on a call before or on one beside.
func TestHangsOnArgumentsAlone(t *testing.T) {
	h := api.Header{Long: true, To: some(5, 110), From: some(6, 111), Number: 9}
	k, payload := someKeys(112), some(50, 113)
	want := plainSeal(h, 2, payload, k)
	packet.Seal(api.Header{Long: true, Phase: true}, 9, nil, api.Keys{})
	packet.Open(want[:9], 5, k, 8)
	seals(t, api.Header{Long: true, To: roomy(h.To), From: roomy(h.From), Number: 9}, 2, roomy(payload), api.Keys{Key: roomy(k.Key), IV: roomy(k.IV), Mask: roomy(k.Mask)}, want)
	opens(t, roomy(want), 5, api.Keys{Key: roomy(k.Key), IV: roomy(k.IV), Mask: roomy(k.Mask)}, 8, result{h, payload, len(want), api.OK})
	var group sync.WaitGroup
	for range 8 {
		group.Go(func() {
			for range 50 {
				seals(t, h, 2, payload, k, want)
				opens(t, want, 5, k, 8, result{h, payload, len(want), api.OK})
			}
		})
	}
	group.Wait()
}

// R4: one list may be handed in for several things.
func TestSameListTwice(t *testing.T) {
	b := some(32, 120)
	k := api.Keys{Key: b, IV: b[:12], Mask: b}
	sealedAndOpened(t, api.Header{Long: true, To: b[:20], From: b[:20], Number: 5}, 2, b, k)
	sealedAndOpened(t, api.Header{To: b[12:], Number: 5}, 2, b, k)
	opens(t, b, 0, k, 0, plainOpen(b, 0, k, 0))
}
