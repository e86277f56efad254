package hello_test

import (
	"bytes"
	"encoding/hex"
	"fmt"
	"math"
	"math/rand"
	"strings"
	"sync"
	"testing"

	"mailcoach/api"
	"mailcoach/hello"
)

const maxNumber = 1<<62 - 1

// all: a nonce or a proof whose bytes are all x; up: one of the bytes x, x + 1 ..
func all(x byte) [32]byte { return [32]byte(bytes.Repeat([]byte{x}, 32)) }

func up(x byte) (field [32]byte) {
	for i := range field {
		field[i] = x + byte(i)
	}
	return field
}

func client(nonce [32]byte, limits ...uint64) hello.Hello {
	return hello.Hello{Kind: hello.Client, Nonce: nonce, Limits: [4]uint64(limits)}
}

func server(nonce, proof [32]byte, limits ...uint64) hello.Hello {
	return hello.Hello{Kind: hello.Server, Nonce: nonce, Limits: [4]uint64(limits), Proof: proof}
}

func finish(proof [32]byte) hello.Hello { return hello.Hello{Kind: hello.Finish, Proof: proof} }

func unhex(t *testing.T, s string) []byte {
	t.Helper()
	b, err := hex.DecodeString(strings.Join(strings.Fields(s), ""))
	if err != nil {
		t.Fatal(err)
	}
	return b
}

// puts: a greeting has these bytes.
func puts(t *testing.T, h hello.Hello, want []byte) {
	t.Helper()
	if b, e := hello.Put(h); e != api.OK || !bytes.Equal(b, want) {
		t.Errorf("Put(%v): %x, %d; want %x", h, b, e, want)
	}
}

// putsNot: there is no such greeting.
func putsNot(t *testing.T, what string, h hello.Hello) {
	t.Helper()
	if b, e := hello.Put(h); e != api.ErrArg || len(b) != 0 {
		t.Errorf("%s: Put(%v): %x, %d; want ErrArg", what, h, b, e)
	}
}

// gets: bytes begin with a greeting of that length.
func gets(t *testing.T, b []byte, want hello.Hello, length int) {
	t.Helper()
	if h, n, e := hello.Get(b); e != api.OK || h != want || n != length {
		t.Errorf("Get(%x): %v, %d, %d; want %v, %d", b, h, n, e, want, length)
	}
}

// getsNot: bytes are refused, and nothing is told beside that.
func getsNot(t *testing.T, b []byte, want api.Errno) {
	t.Helper()
	if h, n, e := hello.Get(b); e != want || h != (hello.Hello{}) || n != 0 {
		t.Errorf("Get(%x): %v, %d, %d; want %d", b, h, n, e, want)
	}
}

// edgeLimits: 0, the greatest of each length of a number of few bytes and the next one, those whose bytes are unlike, MaxNumber.
func edgeLimits() []uint64 {
	return []uint64{0, 1, 37, 62, 63, 64, 65, 255, 256, 15293, 16382, 16383, 16384, 65536, 494878333, 1<<30 - 2, 1<<30 - 1, 1 << 30, 1 << 32, 0x0102030405060708, 151288809941952652, maxNumber - 1, maxNumber}
}

// edges: greetings of each kind, their nonces, proofs and limits of zeros and at their edges.
func edges() []hello.Hello {
	var l []hello.Hello
	fields := [][32]byte{{}, all(0xff), all(7), up(1), {0: 1}, {31: 1}, {0: 0x80, 31: 0x80}}
	for _, a := range fields {
		l = append(l, finish(a), client(a, 0, 0, 0, 0), client(a, maxNumber, maxNumber, maxNumber, maxNumber), client(a, 5, 100, 1<<20, maxNumber))
		for _, b := range fields {
			l = append(l, server(a, b, 0, 0, 0, 0), server(a, b, maxNumber, maxNumber, maxNumber, maxNumber), server(a, b, 63, 64, 16384, 1<<30))
		}
	}
	for place := range 4 {
		for _, limit := range edgeLimits() {
			limits := []uint64{1, 2, 3, 4}
			limits[place] = limit
			l = append(l, client(up(9), limits...), server(up(9), up(77), limits...))
		}
	}
	for _, limit := range edgeLimits() {
		l = append(l, client(all(0), limit, limit, limit, limit), server(all(1), all(2), limit, limit, limit, limit))
	}
	return l
}

// P17.1: the numbers of the kinds.
func TestKinds(t *testing.T) {
	for i, k := range []hello.Kind{hello.None, hello.Client, hello.Server, hello.Finish} {
		if int(k) != i {
			t.Errorf("a kind is %d, not %d", k, i)
		}
	}
}

// P17.1: the chapter's examples.
func TestExamples(t *testing.T) {
	whole := append([]byte{3}, bytes.Repeat([]byte{7}, 32)...)
	puts(t, finish(all(7)), whole)
	if len(whole) != 33 {
		t.Errorf("%d bytes", len(whole))
	}
	gets(t, whole, finish(all(7)), 33)
	getsNot(t, whole[:32], api.ErrShort) // 03 and 31 bytes
	getsNot(t, append([]byte{4}, whole...), api.ErrForm)
	getsNot(t, []byte{4}, api.ErrForm)
	getsNot(t, nil, api.ErrShort)
	proved := client(all(1), 1, 2, 3, 4)
	proved.Proof = all(7)
	putsNot(t, "a client with a proof", proved)
}

// P17.1: greetings' bytes, written out.
func TestWrittenOut(t *testing.T) {
	const upFrom1 = "01020304 05060708 090a0b0c 0d0e0f10 11121314 15161718 191a1b1c 1d1e1f20"
	const upFromA0 = "a0a1a2a3 a4a5a6a7 a8a9aaab acadaeaf b0b1b2b3 b4b5b6b7 b8b9babb bcbdbebf"
	zeros := strings.Repeat("00", 32)
	for _, row := range []struct {
		h     hello.Hello
		bytes string
	}{
		{client(up(1), 5, 100, 1<<20, maxNumber), "01" + upFrom1 + "05 4064 80100000 ffffffffffffffff"},
		{client(up(0xa0), 15293, 37, 151288809941952652, 494878333), "01" + upFromA0 + "7bbd 25 c2197c5eff14e88c 9d7f3e7d"},
		{client(all(0), 0, 0, 0, 0), "01" + zeros + "00 00 00 00"},
		{client(all(0), 63, 64, 16383, 16384), "01" + zeros + "3f 4040 7fff 80004000"},
		{client(all(0), 1<<30-1, 1<<30, 0, 1), "01" + zeros + "bfffffff c000000040000000 00 01"},
		{server(up(1), up(0xa0), 5, 100, 1<<20, maxNumber), "02" + upFrom1 + "05 4064 80100000 ffffffffffffffff" + upFromA0},
		{server(all(0), all(0), 0, 0, 0, 0), "02" + zeros + "00 00 00 00" + zeros},
		{server(all(0), up(1), 1<<30-1, 1<<30, 63, 64), "02" + zeros + "bfffffff c000000040000000 3f 4040" + upFrom1},
		{finish(up(1)), "03" + upFrom1},
		{finish(up(0xa0)), "03" + upFromA0},
		{finish(all(0)), "03" + zeros},
	} {
		b := unhex(t, row.bytes)
		puts(t, row.h, b)
		gets(t, b, row.h, len(b))
	}
}

// P17.1: each greeting at its edges against the chapter's words written out.
func TestPutEdges(t *testing.T) {
	for _, h := range edges() {
		puts(t, h, plainPut(h))
	}
}

// P17.1: None, and each kind above the three, with whatever they have.
func TestPutNoKind(t *testing.T) {
	for k := range 256 {
		if k >= 1 && k <= 3 {
			continue
		}
		h := hello.Hello{Kind: hello.Kind(k)}
		putsNot(t, "nothing", h)
		h.Nonce = all(1)
		putsNot(t, "a nonce", h)
		h.Proof = all(1)
		putsNot(t, "a nonce and a proof", h)
		h.Limits = [4]uint64{1, 2, 3, 4}
		putsNot(t, "all", h)
		h.Nonce, h.Proof = [32]byte{}, [32]byte{}
		putsNot(t, "limits", h)
		h.Limits[2] = maxNumber + 1
		putsNot(t, "limits too great", h)
	}
}

// P17.1: each byte of a nonce or a proof, and each limit, that a kind does not have.
func TestPutWhatItHasNot(t *testing.T) {
	for place := range 32 {
		for _, x := range []byte{1, 0x80, 0xff} {
			h := client(up(1), 1, 2, 3, 4)
			h.Proof[place] = x
			putsNot(t, "a client with a proof", h)
			h = hello.Hello{Kind: hello.Client}
			h.Proof[place] = x
			putsNot(t, "a client of zeros with a proof", h)
			h = finish(up(1))
			h.Nonce[place] = x
			putsNot(t, "a finish with a nonce", h)
			h = hello.Hello{Kind: hello.Finish}
			h.Nonce[place] = x
			putsNot(t, "a finish of zeros with a nonce", h)
		}
	}
	for place := range 4 {
		for _, limit := range []uint64{1, 64, 1 << 32, maxNumber, maxNumber + 1, math.MaxUint64} {
			h := finish(up(1))
			h.Limits[place] = limit
			putsNot(t, "a finish with a limit", h)
			h.Proof = [32]byte{}
			putsNot(t, "a finish of zeros with a limit", h)
		}
	}
}

// P17.1: limits above MaxNumber, at each place, whatever else the greeting has.
func TestPutLimitTooGreat(t *testing.T) {
	for place := range 4 {
		for _, limit := range []uint64{maxNumber + 1, maxNumber + 2, 1 << 63, 1<<63 + 5, math.MaxUint64} {
			limits := []uint64{1, 2, maxNumber, 0}
			limits[place] = limit
			putsNot(t, "a client", client(up(1), limits...))
			putsNot(t, "a client of zeros", client([32]byte{}, limits...))
			putsNot(t, "a server", server(up(1), up(2), limits...))
			proved := client(up(1), limits...)
			proved.Proof = up(2)
			putsNot(t, "a client with a proof", proved)
			limits[place] = maxNumber
			h := client(up(1), limits...)
			puts(t, h, plainPut(h))
		}
	}
	putsNot(t, "all of them", server(up(1), up(2), math.MaxUint64, math.MaxUint64, math.MaxUint64, math.MaxUint64))
}

// behind: what may stand behind a greeting.
func behind() [][]byte {
	return [][]byte{nil, {}, {0}, {9}, {0xff}, {1, 2, 3}, make([]byte, 40), bytes.Repeat([]byte{0xff}, 40), make([]byte, 5000)}
}

// P17.1, P17.3: Get of Put is the greeting, whatever stands behind it.
func TestGetOfPut(t *testing.T) {
	for _, h := range edges() {
		b, _ := hello.Put(h)
		for _, more := range behind() {
			gets(t, append(bytes.Clone(b), more...), h, len(b))
		}
	}
}

// P17.1: greetings one behind the other are got one by one.
func TestGetRow(t *testing.T) {
	var row []byte
	for _, h := range edges() {
		row = append(row, plainPut(h)...)
	}
	for i, h := range edges() {
		got, n, e := hello.Get(row)
		if e != api.OK || got != h {
			t.Fatalf("greeting %d: %v, %d, %d; want %v", i, got, n, e, h)
		}
		row = row[n:]
	}
	getsNot(t, row, api.ErrShort)
}

// P17.1: no bytes, and bytes that end in each field; what stands in the spare room is not there.
func TestGetShort(t *testing.T) {
	getsNot(t, nil, api.ErrShort)
	getsNot(t, []byte{}, api.ErrShort)
	getsNot(t, finishBytes()[:0], api.ErrShort)
	for _, h := range edges() {
		b := plainPut(h)
		for n := range b {
			getsNot(t, b[:n], api.ErrShort)
		}
	}
}

func finishBytes() []byte { return append([]byte{3}, make([]byte, 32)...) }

// P17.1: each first byte that is no kind, of whatever length the bytes are.
func TestGetNoKind(t *testing.T) {
	for first := range 256 {
		if first >= 1 && first <= 3 {
			continue
		}
		for _, size := range []int{0, 1, 31, 32, 36, 68, 100, 5000} {
			getsNot(t, append([]byte{byte(first)}, make([]byte, size)...), api.ErrForm)
			getsNot(t, append([]byte{byte(first)}, bytes.Repeat([]byte{0x40}, size)...), api.ErrForm)
		}
	}
}

// longer shows greetings of both kinds that have limits, with the limit at each place in more bytes than it needs, in each length that is too great.
func longer(see func(h hello.Hello, sizes [4]int)) {
	for place := range 4 {
		for _, limit := range edgeLimits() {
			for _, size := range []int{2, 4, 8} {
				if size <= sizeOf(limit) {
					continue
				}
				limits := []uint64{5, 100, 1 << 20, maxNumber}
				sizes := [4]int{1, 2, 4, 8}
				limits[place], sizes[place] = limit, size
				see(client(up(1), limits...), sizes)
				see(server(up(1), up(0xa0), limits...), sizes)
			}
		}
	}
}

// P17.1: a limit that is told in more bytes than varint.Put needs, whatever stands behind the greeting.
func TestGetLongerLimits(t *testing.T) {
	count := 0
	longer(func(h hello.Hello, sizes [4]int) {
		b := inSizes(h, sizes)
		for _, more := range behind() {
			getsNot(t, append(bytes.Clone(b), more...), api.ErrForm)
		}
		count++
	})
	if count < 200 {
		t.Errorf("%d greetings alone", count)
	}
	for _, size := range []int{2, 4, 8} {
		sizes := [4]int{size, size, size, size}
		getsNot(t, inSizes(client(up(1), 0, 0, 0, 0), sizes), api.ErrForm)
		getsNot(t, inSizes(server(up(1), up(2), 0, 63, 1, 5), sizes), api.ErrForm)
	}
}

// P17.1: bytes that end too early are ErrShort, also where a limit has more bytes than it needs: that is named first.
func TestGetShortAheadOfForm(t *testing.T) {
	longer(func(h hello.Hello, sizes [4]int) {
		b := inSizes(h, sizes)
		for n := range b {
			getsNot(t, b[:n], api.ErrShort)
		}
	})
}

// P17.1, P17.3: what is got in all lengths that limits may be told in: only the shortest ones are a greeting, and put again it is as it was.
func TestGetAllSizes(t *testing.T) {
	lengths := []int{1, 2, 4, 8}
	limits := []uint64{63, 16383, 1<<30 - 1, maxNumber}
	for i := range 256 {
		values := make([]uint64, 4)
		for place := range values {
			values[place] = limits[i>>(2*place)&3]
		}
		for j := range 256 {
			var sizes [4]int
			fits, shortest := true, true
			for place := range sizes {
				sizes[place] = lengths[j>>(2*place)&3]
				fits = fits && sizes[place] >= sizeOf(values[place])
				shortest = shortest && sizes[place] == sizeOf(values[place])
			}
			h := server(up(1), up(2), values...)
			b := inSizes(h, sizes)
			switch {
			case shortest:
				gets(t, b, h, len(b))
				puts(t, h, b)
			case fits:
				getsNot(t, b, api.ErrForm)
			}
		}
	}
}

// P17.1: every field counts: greetings that are unlike have unlike bytes.
func TestUnlike(t *testing.T) {
	seen := map[string]hello.Hello{}
	add := func(h hello.Hello) {
		b, e := hello.Put(h)
		if other, ok := seen[string(b)]; e != api.OK || ok && other != h {
			t.Errorf("%v and %v: %x, %d", other, h, b, e)
		}
		seen[string(b)] = h
	}
	for _, h := range edges() {
		add(h)
	}
	for place := range 32 {
		for bit := range 8 {
			h := server(up(1), up(2), 1, 2, 3, 4)
			h.Nonce[place] ^= 1 << bit
			add(h)
			h = server(up(1), up(2), 1, 2, 3, 4)
			h.Proof[place] ^= 1 << bit
			add(h)
		}
	}
	for place := range 4 {
		for bit := range 62 {
			h := server(up(1), up(2), 1, 2, 3, 4)
			h.Limits[place] ^= 1 << bit
			add(h)
		}
	}
}

// R4: what is handed in stays as it was, its spare room too; with errors as well.
func TestGetChangesNothing(t *testing.T) {
	for _, h := range edges() {
		b := append(plainPut(h), bytes.Repeat([]byte{0xaa}, 20)...)
		kept := bytes.Clone(b)
		for n := range b {
			hello.Get(b[:n])
		}
		hello.Get(b)
		if !bytes.Equal(b, kept) {
			t.Fatalf("%x became %x", kept, b)
		}
	}
}

// R4: an answer is memory of its own: it shares none with another one, its spare room neither.
func TestPutNewMemory(t *testing.T) {
	for _, h := range edges() {
		first, _ := hello.Put(h)
		second, _ := hello.Put(h)
		for i := range second[:cap(second)] {
			second[:cap(second)][i] = 0xee
		}
		third, _ := hello.Put(h)
		want := plainPut(h)
		if !bytes.Equal(first, want) || !bytes.Equal(third, want) {
			t.Fatalf("%v: %x, then %x; want %x", h, first, third, want)
		}
	}
}

// R4: a greeting that was got hangs no more on the bytes that it was got of.
func TestGetKeepsNoBytes(t *testing.T) {
	for _, h := range edges() {
		b := plainPut(h)
		got, _, _ := hello.Get(b)
		for i := range b {
			b[i] = 0xee
		}
		if got != h {
			t.Fatalf("%v became %v", h, got)
		}
	}
}

// R5: answers hang on what the call was given alone, beside other calls too.
func TestBesideOneAnother(t *testing.T) {
	var group sync.WaitGroup
	for range 8 {
		group.Go(func() {
			for _, h := range edges() {
				b, e := hello.Put(h)
				got, n, f := hello.Get(b)
				if e != api.OK || f != api.OK || got != h || n != len(b) {
					t.Errorf("%v: %x, %d; %v, %d, %d", h, b, e, got, n, f)
				}
			}
		})
	}
	group.Wait()
}

// asPlain: Get answers what the chapter's words say; P17.3: what it answers, put, is the bytes that it had.
func asPlain(t *testing.T, b []byte) {
	t.Helper()
	kept := bytes.Clone(b)
	want, length, wantE := plainGet(b)
	h, n, e := hello.Get(b)
	if h != want || n != length || e != wantE {
		t.Fatalf("Get(%x): %v, %d, %d; want %v, %d, %d", b, h, n, e, want, length, wantE)
	}
	if e == api.OK {
		puts(t, h, b[:n])
	}
	if !bytes.Equal(b, kept) {
		t.Fatalf("%x became %x", kept, b)
	}
}

// someBytes: those of a greeting, or nearly: limits in any number of bytes, cut or with more behind, a byte another one.
func someBytes(r *rand.Rand) []byte {
	b := []byte{byte(r.Intn(5))}
	if r.Intn(30) == 0 {
		b[0] = byte(r.Intn(256))
	}
	field := func() {
		field := make([]byte, 32)
		r.Read(field)
		b = append(b, field...)
	}
	if b[0] != byte(hello.Finish) {
		field()
		for range 4 {
			size := 1 << r.Intn(4)
			limit := r.Uint64() >> 2 >> (64 - 8*size)
			if r.Intn(6) == 0 {
				limit >>= r.Intn(8 * size)
			}
			b = append(b, inSize(limit, size)...)
		}
	}
	if b[0] != byte(hello.Client) {
		field()
	}
	switch r.Intn(6) {
	case 0:
		b = b[:r.Intn(len(b)+1)]
	case 1:
		b = append(b, make([]byte, r.Intn(40))...)
	case 2:
		b[r.Intn(len(b))] = byte(r.Intn(256))
	}
	return b
}

// P17.1, P17.3: many rows of bytes, each against the chapter's words.
func TestGetAgainstPlain(t *testing.T) {
	r := rand.New(rand.NewSource(17))
	count := map[api.Errno]int{}
	for range 200000 {
		b := someBytes(r)
		asPlain(t, b)
		_, _, e := hello.Get(b)
		count[e]++
	}
	for _, e := range []api.Errno{api.OK, api.ErrShort, api.ErrForm} {
		if count[e] < 5000 {
			t.Errorf("%d: %d times alone", e, count[e])
		}
	}
}

// P17.1: many greetings, such that may not be among them, against the chapter's words.
func TestPutAgainstPlain(t *testing.T) {
	r := rand.New(rand.NewSource(18))
	for range 50000 {
		h := hello.Hello{Kind: hello.Kind(r.Intn(5))}
		if r.Intn(3) > 0 {
			r.Read(h.Nonce[:])
		}
		if r.Intn(3) > 0 {
			r.Read(h.Proof[:])
		}
		great := false
		for i := range h.Limits {
			if r.Intn(3) > 0 {
				h.Limits[i] = r.Uint64() >> (r.Intn(60) + r.Intn(4))
			}
			great = great || h.Limits[i] > maxNumber
		}
		opened := h.Nonce != [32]byte{} || h.Limits != [4]uint64{}
		proved := h.Proof != [32]byte{}
		switch {
		case h.Kind < 1 || h.Kind > 3, great, h.Kind == hello.Client && proved, h.Kind == hello.Finish && opened:
			putsNot(t, "one that may not be", h)
		default:
			puts(t, h, plainPut(h))
		}
	}
}

// P17.1, P17.3, R1: any bytes.
func FuzzGet(f *testing.F) {
	for _, h := range edges() {
		f.Add(plainPut(h))
	}
	longer(func(h hello.Hello, sizes [4]int) { f.Add(inSizes(h, sizes)) })
	f.Add([]byte{})
	f.Add([]byte{4})
	f.Fuzz(func(t *testing.T, b []byte) { asPlain(t, b) })
}

// P17.1, R1: any fields.
func FuzzPut(f *testing.F) {
	f.Add(byte(1), []byte{1}, uint64(0), uint64(63), uint64(64), uint64(maxNumber), []byte{})
	f.Add(byte(2), []byte{1}, uint64(0), uint64(63), uint64(64), uint64(maxNumber), []byte{7})
	f.Add(byte(3), []byte{}, uint64(0), uint64(0), uint64(0), uint64(0), []byte{7})
	f.Add(byte(3), []byte{}, uint64(0), uint64(0), uint64(0), uint64(maxNumber+1), []byte{7})
	f.Fuzz(func(t *testing.T, kind byte, nonce []byte, l0, l1, l2, l3 uint64, proof []byte) {
		h := hello.Hello{Kind: hello.Kind(kind), Limits: [4]uint64{l0, l1, l2, l3}}
		copy(h.Nonce[:], nonce)
		copy(h.Proof[:], proof)
		b, e := hello.Put(h)
		if e == api.ErrArg && len(b) == 0 {
			if got, n, f := plainGet(plainPut(h)); f == api.OK && got == h && max(l0, l1, l2, l3) <= maxNumber {
				t.Fatalf("%v is refused, of %d bytes", h, n)
			}
			return
		}
		if e != api.OK {
			t.Fatalf("Put(%v): %x, %d", h, b, e)
		}
		gets(t, b, h, len(b))
		asPlain(t, b)
	})
}

func ExamplePut() {
	b, e := hello.Put(hello.Hello{Kind: hello.Finish, Proof: [32]byte{0: 7}})
	fmt.Printf("%x.. %d %d\n", b[:3], len(b), e)
	h, n, e := hello.Get(b)
	fmt.Println(h.Kind, h.Proof[0], n, int(e))
	// Output:
	// 030700.. 33 0
	// 3 7 33 0
}
