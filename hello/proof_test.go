package hello_test

import (
	"bytes"
	"encoding/hex"
	"math/rand"
	"sync"
	"testing"

	"mailcoach/api"
	"mailcoach/hello"
	"mailcoach/hkdf"
)

// some bytes, the same ones for the same size and seed.
func some(size int, seed int64) []byte {
	b := make([]byte, size)
	rand.New(rand.NewSource(seed)).Read(b)
	return b
}

// rising: so many bytes 00 01 02 ..
func rising(size int) []byte {
	b := make([]byte, size)
	for i := range b {
		b[i] = byte(i)
	}
	return b
}

// mostSaid: what hkdf.Mac takes at most: a pad is summed up ahead of it.
const mostSaid = api.MaxBytes - 64

// proves: both ends' proofs are what the chapter's words say.
func proves(t *testing.T, shared, said []byte) {
	t.Helper()
	for _, server := range []bool{false, true} {
		want := plainProof(shared, said, server)
		if p, e := hello.Proof(shared, said, server); e != api.OK || p != want {
			t.Errorf("Proof(%d bytes, %d bytes, %t): %x, %d; want %x", len(shared), len(said), server, p, e, want)
		}
	}
}

// provesNot: both ends' proofs are refused, and nothing is told beside that.
func provesNot(t *testing.T, shared, said []byte, want api.Errno) {
	t.Helper()
	for _, server := range []bool{false, true} {
		if p, e := hello.Proof(shared, said, server); e != want || p != [32]byte{} {
			t.Errorf("Proof(%d bytes, %d bytes, %t): %x, %d; want %d", len(shared), len(said), server, p, e, want)
		}
	}
}

// P17.2: proofs that were worked out elsewhere: the least and the most that may be shared, and that a MAC is made of.
func TestProofWorkedOutElsewhere(t *testing.T) {
	for _, row := range []struct {
		shared, said   []byte
		client, server string
	}{
		{[]byte("shared"), []byte("said"), "47efd4741a0a6ba5217f4396bb21f8ada39ddd07fe60b38c4085d0fe5847b4aa", "7357fc9d2e06d083f11988164c9688c4fe07ba847306a445976e3ef9e170249d"},
		{[]byte{0}, nil, "615529fc7b4bb45514660d7341f939c8e9a407b04a24bf0513ce867e3c3a4b85", "a324f5ffc69d138001ec84700d1a1070e189bac235a67edcf6b336e79aabb135"},
		{bytes.Repeat([]byte{0xff}, 256), nil, "152ec26ab50bfa4c51b332fea8feae7726705fb8afcdba039c59105d3406b1fc", "b3a3995ac33c105af53c469ef77f32d87a557695d5e7401b5c051253154075ce"},
		{[]byte("x"), bytes.Repeat([]byte{'a'}, 1048512), "5c03f511dee3642612c287bdf903cb6274d6f2fa8b5f067142606dfabaa3cd5b", "53ab1c8142668734966cae379e6fc308d195dffdb05b88d90c40c0ca1adcfc64"},
		{rising(256), rising(1048512), "8891bd80a5559a50e5bfa91fc16a3004389d5027b2499ce98cf5482908471b50", "50b33ea3e725f342586609e7240d0bea7e7684adceb799c1b0831d65c39e747d"},
		{rising(256), rising(64), "4aa46a254fbd81a6daa7b1598e7e26f52b4c9c1dbfa3d7e891cd6041a05bdd54", "2876f1460de0eec3252c10ef931574f6b6b6fdd2bb56d0315153f5e85d96cdec"},
	} {
		for server, want := range map[bool]string{false: row.client, true: row.server} {
			if p, e := hello.Proof(row.shared, row.said, server); e != api.OK || hex.EncodeToString(p[:]) != want {
				t.Errorf("Proof(%d bytes, %d bytes, %t): %x, %d; want %s", len(row.shared), len(row.said), server, p, e, want)
			}
		}
	}
}

// P17.2: every size that may be shared; what was said of no bytes, and in sizes around a block's and at the most that a MAC is made of.
func TestProofSizes(t *testing.T) {
	for size := 1; size <= 256; size++ {
		proves(t, some(size, int64(size)), []byte("said"))
	}
	for _, size := range []int{0, 1, 31, 32, 33, 55, 56, 63, 64, 65, 119, 120, 1000, 65536, mostSaid - 1, mostSaid} {
		said := some(size, int64(size)+1)
		proves(t, []byte{7}, said)
		proves(t, some(256, 2), said)
	}
	proves(t, []byte{7}, nil)
	proves(t, []byte{7}, []byte{})
}

// P17.2: what was said in more bytes than hkdf.Mac takes, up to MaxBytes: the answer is what hkdf.Mac says of it.
func TestProofIsWhatMacSays(t *testing.T) {
	for _, size := range []int{0, 1, 64, mostSaid - 1, mostSaid, mostSaid + 1, mostSaid + 63, api.MaxBytes} {
		said := some(size, 3)
		for _, shared := range [][]byte{{7}, []byte("shared"), some(256, 4)} {
			for _, server := range []bool{false, true} {
				both, _ := hkdf.Extract(nil, shared)
				name := "client proof"
				if server {
					name = "server proof"
				}
				key, _ := hkdf.Label(both[:], name, nil, 32)
				want, wantE := hkdf.Mac(key, said)
				if p, e := hello.Proof(shared, said, server); p != want || e != wantE {
					t.Errorf("Proof(%d bytes, %d bytes, %t): %x, %d; want %x, %d", len(shared), size, server, p, e, want, wantE)
				}
			}
		}
	}
}

// P17.2: nothing shared, or more than 256 bytes: ErrArg, also where too much was said: that is named first.
func TestProofWrongShared(t *testing.T) {
	spare := make([]byte, 10)[:0]
	for _, shared := range [][]byte{nil, {}, spare, make([]byte, 257), make([]byte, 258), make([]byte, 512), make([]byte, 65536+5), make([]byte, api.MaxBytes+1)} {
		for _, said := range [][]byte{nil, []byte("said"), make([]byte, api.MaxBytes), make([]byte, api.MaxBytes+1), make([]byte, 2*api.MaxBytes)} {
			provesNot(t, shared, said, api.ErrArg)
		}
	}
}

// P17.2: more said than MaxBytes: ErrLimit, whatever may be shared.
func TestProofTooMuchSaid(t *testing.T) {
	for _, size := range []int{api.MaxBytes + 1, api.MaxBytes + 2, api.MaxBytes + 64, 2 * api.MaxBytes, 4*api.MaxBytes + 1} {
		said := make([]byte, size)
		for _, shared := range [][]byte{{1}, make([]byte, 32), make([]byte, 256)} {
			provesNot(t, shared, said, api.ErrLimit)
		}
	}
}

// P17.2: the other end, another byte that is shared or was said, another row of them: another proof.
func TestProofHangsOnEach(t *testing.T) {
	seen := map[[32]byte]bool{}
	count := 0
	for _, shared := range []string{"shared", "Shared", "sharee", "share", "said", "s"} {
		for _, said := range []string{"said", "Said", "saie", "sai", "shared", "", "\x00", "\x00\x00"} {
			for _, server := range []bool{false, true} {
				p, e := hello.Proof([]byte(shared), []byte(said), server)
				if e != api.OK {
					t.Fatalf("Proof(%q, %q, %t): %d", shared, said, server, e)
				}
				seen[p] = true
				count++
			}
		}
	}
	if len(seen) != count {
		t.Errorf("%d proofs of %d", len(seen), count)
	}
}

// P17.2: many that are shared and said.
func TestProofAgainstPlain(t *testing.T) {
	r := rand.New(rand.NewSource(19))
	for range 2000 {
		proves(t, some(1+r.Intn(256), r.Int63()), some(r.Intn(400), r.Int63()))
	}
}

// P17.2: proofs of greetings that were said, as they stand in greetings, come through.
func TestProofInGreetings(t *testing.T) {
	shared := []byte("shared")
	asked, _ := hello.Put(client(up(1), 5, 100, 1<<20, maxNumber))
	proof, _ := hello.Proof(shared, asked, true)
	answered := server(up(2), proof, 0, 63, 64, 1<<30)
	said, _ := hello.Put(answered)
	gets(t, said, answered, len(said))
	whole := append(bytes.Clone(asked), said...)
	last, _ := hello.Proof(shared, whole, false)
	ended, _ := hello.Put(finish(last))
	if got, _, e := hello.Get(ended); e != api.OK || got.Proof != plainProof(shared, whole, false) {
		t.Errorf("%v, %d", got, e)
	}
}

// R4: what is handed in stays as it was, the spare room behind it too; with errors as well; one list may be handed in twice.
func TestProofChangesNothing(t *testing.T) {
	const room = 100
	for _, size := range []int{0, 1, 31, 32, 63, 64, 65, 256, 257, mostSaid, api.MaxBytes, api.MaxBytes + 1} {
		a, b := some(size+room, 20), some(size+room, 21)
		beforeA, beforeB := bytes.Clone(a), bytes.Clone(b)
		for _, server := range []bool{false, true} {
			hello.Proof(a[:size], b[:size], server)
			hello.Proof(a[:1], b[:size], server)
			hello.Proof(a[:size], b[:1], server)
		}
		if !bytes.Equal(a, beforeA) || !bytes.Equal(b, beforeB) {
			t.Errorf("lists of %d bytes, or the room behind them, were changed", size)
		}
	}
	both := some(40, 22)
	proves(t, both, both)
}

// R4, R5: a proof hangs on the bytes as they are at the call, not on a call before or on one beside.
func TestProofHangsOnArgumentsAlone(t *testing.T) {
	shared, said := some(40, 30), some(50, 31)
	want, _ := hello.Proof(shared, said, true)
	shared[39] ^= 1
	proves(t, shared, said)
	shared[39] ^= 1
	said[0] ^= 1
	proves(t, shared, said)
	said[0] ^= 1
	provesNot(t, nil, said, api.ErrArg)
	var group sync.WaitGroup
	for range 8 {
		group.Go(func() {
			for range 50 {
				if p, e := hello.Proof(shared, said, true); e != api.OK || p != want {
					t.Errorf("%x, %d; want %x", p, e, want)
				}
			}
		})
	}
	group.Wait()
}
