package keys_test

import (
	"bytes"
	"encoding/binary"
	"encoding/hex"
	"math"
	"math/rand"
	"strings"
	"sync"
	"testing"

	"mailcoach/aead"
	"mailcoach/api"
	"mailcoach/keys"
)

// chapterSecret: S of the chapter's examples.
const chapterSecret = "9ac312a7f877468ebe69422748ad00a15443f18203a07d6060f688f30f21632b"

func unhex(t *testing.T, s string) []byte {
	t.Helper()
	b, err := hex.DecodeString(strings.Join(strings.Fields(s), ""))
	if err != nil {
		t.Fatal(err)
	}
	return b
}

// some bytes, the same ones for the same size and seed.
func some(size int, seed int64) []byte {
	b := make([]byte, size)
	rand.New(rand.NewSource(seed)).Read(b)
	return b
}

// all: so many bytes that are all x.
func all(size int, x byte) []byte { return bytes.Repeat([]byte{x}, size) }

// up: so many bytes 00 01 02 ..
func up(size int) []byte {
	b := make([]byte, size)
	for i := range b {
		b[i] = byte(i)
	}
	return b
}

// answers: a call answers these bytes.
func answers(t *testing.T, what string, want []byte) func([]byte, api.Errno) {
	return func(b []byte, e api.Errno) {
		t.Helper()
		if e != api.OK || !bytes.Equal(b, want) {
			t.Errorf("%s: %x, %d; want %x", what, b, e, want)
		}
	}
}

// refuses: a call answers this error, and nothing beside it.
func refuses(t *testing.T, what string, want api.Errno) func([]byte, api.Errno) {
	return func(b []byte, e api.Errno) {
		t.Helper()
		if e != want || len(b) != 0 {
			t.Errorf("%s: %x, %d; want %d", what, b, e, want)
		}
	}
}

// hasKeys: a secret's keys are these.
func hasKeys(t *testing.T, secret, key, iv, mask []byte) {
	t.Helper()
	k, e := keys.Of(secret)
	if e != api.OK || !bytes.Equal(k.Key, key) || !bytes.Equal(k.IV, iv) || !bytes.Equal(k.Mask, mask) {
		t.Errorf("Of(%x): %x, %x, %x, %d; want %x, %x, %x", secret, k.Key, k.IV, k.Mask, e, key, iv, mask)
	}
}

// hasNoKeys: a secret is refused, and no key is told.
func hasNoKeys(t *testing.T, secret []byte) {
	t.Helper()
	k, e := keys.Of(secret)
	if e != api.ErrArg || len(k.Key) != 0 || len(k.IV) != 0 || len(k.Mask) != 0 {
		t.Errorf("Of %d bytes: %x, %x, %x, %d", len(secret), k.Key, k.IV, k.Mask, e)
	}
}

// P12.1, P12.2, P12.3: the chapter's examples.
func TestExamples(t *testing.T) {
	s := unhex(t, chapterSecret)
	iv := unhex(t, "e0459b3474bdd0e44a41c144")
	mask := unhex(t, "25a282b9e82f06f21f488917a4fc8f1b73573685608597d0efcb076b0ab7a7a4")
	hasKeys(t, s, unhex(t, "c6d98ff3441c3fe1b2182094f69caa2ed4b716b65488960a7a984979fb23e1c8"), iv, mask)
	answers(t, "Next", unhex(t, "1223504755036d556342ee9361d253421a826c9ecdf3c7148684b36b714881f9"))(keys.Next(s))
	answers(t, "Nonce", unhex(t, "e0459b3474bdd0e46d417eb0"))(keys.Nonce(iv, 654360564))
	answers(t, "Mask", unhex(t, "aefefe7d03"))(keys.Mask(mask, unhex(t, "5e5cd55c41f69080575d7999c25a5bfb")))
	hasNoKeys(t, s[:31])
	refuses(t, "Secret of nothing", api.ErrArg)(keys.Secret(nil, []byte("said"), true))
}

// P12.2, P12.3: the packet of RFC 9001 (A.5) is sealed and masked by these keys.
func TestPacketOfRFC(t *testing.T) {
	k, _ := keys.Of(unhex(t, chapterSecret))
	nonce, _ := keys.Nonce(k.IV, 654360564)
	header := unhex(t, "4200bff4")
	sealed, e := aead.Seal(k.Key, nonce, []byte{1}, header)
	if e != api.OK || !bytes.Equal(sealed, unhex(t, "655e5cd55c41f69080575d7999c25a5bfb")) {
		t.Fatalf("sealed: %x, %d", sealed, e)
	}
	mask, _ := keys.Mask(k.Mask, sealed[1:])
	header[0] ^= mask[0] & 0x1f
	for i := range 3 {
		header[1+i] ^= mask[1+i]
	}
	if !bytes.Equal(header, unhex(t, "4cfe4189")) {
		t.Errorf("masked: %x", header)
	}
}

// P12.2: the ivs that RFC 9001 (A.1) tells of the client's first secret and the server's.
func TestOfRFC(t *testing.T) {
	for _, row := range [][2]string{
		{"c00cf151ca5be075ed0ebfb5c80323c42d6b7db67881289af4008f1f6c357aea", "fa044b2f42a3fd3b46fb255c"},
		{"3c199828fd139efd216c155ad844cc81fb82fa8d7446fa7d78be803acdda951b", "0ac1493ca1905853b0bba03e"},
	} {
		if k, e := keys.Of(unhex(t, row[0])); e != api.OK || !bytes.Equal(k.IV, unhex(t, row[1])) {
			t.Errorf("Of(%s): %x, %d; want %s", row[0], k.IV, e, row[1])
		}
	}
}

// P12.1: secrets that were worked out elsewhere: the least and the most that may be shared and said; the client's and the server's.
func TestSecretWorkedOutElsewhere(t *testing.T) {
	for _, row := range []struct {
		shared, said   []byte
		client, server string
	}{
		{[]byte("shared"), []byte("said"), "611099e245944acf2353244e59bbfe08f165a0d697642c70dfa587587740e68a", "95b0ca6b0cdaacd2b842677a3fee5369bcab8410f2a20a5a1ac31c47064e8e5d"},
		{[]byte{0}, nil, "90da89a6ad84e956a56839f4aca79e7daddaa4346860ec2eced9f118da7d817c", "f98a52fa894f470f9fcde91c51d0c41149dd7a5c009fad27b3015b812145ea42"},
		{all(256, 0xff), nil, "e5cc30f61963869ca454fea8657df4394bc76cad813b15648c0b3fd487509d41", "518735f515bfc8b787c639cb9d4cccc868d993bcaceecfa017d9589189a3893d"},
		{[]byte("x"), all(1048576, 'a'), "41a2cc8e88bf800b37eadb3482d9db1af0d840a8bd5496404a913b1cbb9fc69b", "c25b26cb7efd8eb5f7c4e18b77519da854385e91ca8e9d21e0e292da96accee5"},
		{up(256), up(1048576), "b4b131dfa0da90147537105b15ae540a0259d74839029b3a8b0887e013dd8577", "634fbcb56854f0aeb2eee7afc128e89a0b3ccbe3b595b390534c878ad9702415"},
	} {
		answers(t, "the client's", unhex(t, row.client))(keys.Secret(row.shared, row.said, true))
		answers(t, "the server's", unhex(t, row.server))(keys.Secret(row.shared, row.said, false))
	}
}

// P12.1: every size that may be shared, and what is said in sizes around a block's and at the limit.
func TestSecretSizes(t *testing.T) {
	check := func(shared, said []byte) {
		t.Helper()
		for _, client := range []bool{true, false} {
			answers(t, "Secret", plainSecret(shared, said, client))(keys.Secret(shared, said, client))
		}
	}
	for size := 1; size <= 256; size++ {
		check(some(size, int64(size)), []byte("said"))
	}
	for _, size := range []int{0, 1, 31, 32, 33, 55, 56, 63, 64, 65, 1000, api.MaxBytes - 1, api.MaxBytes} {
		said := some(size, int64(size)+1)
		check([]byte{7}, said)
		check(some(256, 2), said)
	}
	check([]byte{7}, []byte{})
}

// P12.1: another byte that is shared or said, another row of them or the other direction makes another secret.
func TestSecretHangsOnEach(t *testing.T) {
	seen := map[string]bool{}
	count := 0
	add := func(shared, said string) {
		for _, client := range []bool{true, false} {
			s, e := keys.Secret([]byte(shared), []byte(said), client)
			if e != api.OK || len(s) != 32 {
				t.Fatalf("Secret(%q, %q, %t): %x, %d", shared, said, client, s, e)
			}
			seen[string(s)] = true
			count++
		}
	}
	for _, shared := range []string{"shared", "Shared", "sharee", "share", "said", "s"} {
		for _, said := range []string{"said", "Said", "saie", "sai", "shared", "", "\x00", "\x00\x00"} {
			add(shared, said)
		}
	}
	if len(seen) != count {
		t.Errorf("%d secrets of %d", len(seen), count)
	}
}

// P12.1: nothing shared, or more than 256 bytes: ErrArg, also where too much was said.
func TestSecretWrongShared(t *testing.T) {
	spare := make([]byte, 10)[:0]
	for _, shared := range [][]byte{nil, {}, spare, make([]byte, 257), make([]byte, 258), make([]byte, 512), make([]byte, 65536+5), make([]byte, api.MaxBytes), make([]byte, api.MaxBytes+1)} {
		for _, said := range [][]byte{nil, []byte("said"), make([]byte, api.MaxBytes), make([]byte, api.MaxBytes+1), make([]byte, 2*api.MaxBytes)} {
			for _, client := range []bool{true, false} {
				refuses(t, "Secret", api.ErrArg)(keys.Secret(shared, said, client))
			}
		}
	}
}

// P12.1: more said than MaxBytes: ErrLimit, whatever may be shared.
func TestSecretTooMuchSaid(t *testing.T) {
	for _, size := range []int{api.MaxBytes + 1, api.MaxBytes + 2, api.MaxBytes + 64, 2 * api.MaxBytes, 4*api.MaxBytes + 1} {
		said := make([]byte, size)
		for _, shared := range [][]byte{{1}, make([]byte, 32), make([]byte, 256)} {
			for _, client := range []bool{true, false} {
				refuses(t, "Secret", api.ErrLimit)(keys.Secret(shared, said, client))
			}
		}
	}
}

// P12.2: keys and the next secret of secrets at the edges, worked out elsewhere.
func TestOfWorkedOutElsewhere(t *testing.T) {
	for _, row := range []struct {
		secret              []byte
		key, iv, mask, next string
	}{
		{all(32, 0), "b68a19790209515d3c5ea1cf0fa3d6722626725bb57f856a710cb64b22438f15", "cffff10d6d6d9fd79e88938a", "d24bbd155469024088b3103e6988c7d99dab9f65c3e3e433d43428f117557ea6", "53dd8c90e78fc6ea92864f791865be060d933be0824befcb2b59ac901f306035"},
		{all(32, 0xff), "a5812ff9de03fb8cc12707a2453f69335bffb3c1751da359095da0471c7c2452", "d1eb303081e15df1ba48bef6", "d939d2983f2d10b4acb34beacec789421cb53c5b23cebe0bd40f6e31507ed866", "3d4e3fd227e92f45314d7d6cbbb41307fb6436f8e4243773a99cfc081975f442"},
	} {
		hasKeys(t, row.secret, unhex(t, row.key), unhex(t, row.iv), unhex(t, row.mask))
		answers(t, "Next", unhex(t, row.next))(keys.Next(row.secret))
	}
}

// P12.2: many secrets against the library; a row of them, each the next of the one before.
func TestOfAndNext(t *testing.T) {
	check := func(s []byte) {
		t.Helper()
		hasKeys(t, s, plainLabel(s, "quic key", 32), plainLabel(s, "quic iv", 12), plainLabel(s, "quic hp", 32))
		answers(t, "Next", plainLabel(s, "quic ku", 32))(keys.Next(s))
	}
	for seed := range int64(200) {
		check(some(32, seed))
	}
	s := unhex(t, chapterSecret)
	seen := map[string]bool{}
	for i := range 1000 {
		if i%50 == 0 {
			check(s)
		}
		seen[string(s)] = true
		s, _ = keys.Next(s)
	}
	if hex.EncodeToString(s) != "5cd3df761e57bc01dcf77e39f5a98b9505673200e0ed001865c3ce097fd8b8fd" || len(seen) != 1000 {
		t.Errorf("a thousand secrets on: %x, %d unlike ones", s, len(seen))
	}
}

// P12.1, P12.2: what Secret answers may be handed to Of and Next.
func TestKeysOfASecret(t *testing.T) {
	for _, client := range []bool{true, false} {
		s, e := keys.Secret([]byte("shared"), nil, client)
		k, f := keys.Of(s)
		n, g := keys.Next(s)
		if e != api.OK || f != api.OK || g != api.OK || len(s) != 32 || len(k.Key) != 32 || len(k.IV) != 12 || len(k.Mask) != 32 || len(n) != 32 {
			t.Errorf("%x, %d; %x, %d; %x, %d", s, e, k, f, n, g)
		}
	}
}

// P12.2: a secret that has not 32 bytes: ErrArg, also one that is above all limits.
func TestWrongSecrets(t *testing.T) {
	sizes := []int{64, 255, 256, 256 + 32, 65536 + 32, api.MaxBytes, api.MaxBytes + 1, 2 * api.MaxBytes}
	for size := range 64 {
		sizes = append(sizes, size)
	}
	for _, size := range sizes {
		if size == 32 {
			continue
		}
		s := some(size, 3)
		hasNoKeys(t, s)
		refuses(t, "Next", api.ErrArg)(keys.Next(s))
	}
	hasNoKeys(t, nil)
	refuses(t, "Next of nothing", api.ErrArg)(keys.Next(nil))
	wide := some(64, 4)
	hasNoKeys(t, wide[:31]) // the 32nd stands in the spare room alone
	refuses(t, "Next", api.ErrArg)(keys.Next(wide[:31]))
}

// edgeNumbers: the least and the greatest; around each bit and each byte.
func edgeNumbers() (l []uint64) {
	l = append(l, 0, 654360564, 0x0102030405060708, 0x3f80ff00aa55cc33, api.MaxNumber-1, api.MaxNumber)
	for bit := range 62 {
		l = append(l, 1<<bit, 1<<bit-1, 1<<bit+1)
	}
	return l
}

// someIVs: zeros, ones, the chapter's, others.
func someIVs(t *testing.T) [][]byte {
	return [][]byte{all(12, 0), all(12, 0xff), up(12), unhex(t, "e0459b3474bdd0e44a41c144"), some(12, 5), some(12, 6)}
}

// P12.3: nonces, written out.
func TestNonceWrittenOut(t *testing.T) {
	for _, row := range []struct {
		iv     string
		number uint64
		want   string
	}{
		{"000000000000000000000000", 0, "000000000000000000000000"},
		{"000000000000000000000000", 1, "000000000000000000000001"},
		{"000000000000000000000000", 256, "000000000000000000000100"},
		{"000000000000000000000000", 0x0102030405060708, "000000000102030405060708"},
		{"000000000000000000000000", api.MaxNumber, "000000003fffffffffffffff"},
		{"ffffffffffffffffffffffff", 0, "ffffffffffffffffffffffff"},
		{"ffffffffffffffffffffffff", 1, "fffffffffffffffffffffffe"},
		{"ffffffffffffffffffffffff", api.MaxNumber, "ffffffffc000000000000000"},
		{"000102030405060708090a0b", 0x0405060708090a0b, "000102030000000000000000"},
		{"fa044b2f42a3fd3b46fb255c", 2, "fa044b2f42a3fd3b46fb255e"},
	} {
		answers(t, row.iv, unhex(t, row.want))(keys.Nonce(unhex(t, row.iv), row.number))
	}
}

// P12.3: a number of 0, of MaxNumber, of each bit and many others; of 0 the nonce is the iv.
func TestNonceNumbers(t *testing.T) {
	r := rand.New(rand.NewSource(7))
	for _, iv := range someIVs(t) {
		answers(t, "Nonce of 0", iv)(keys.Nonce(iv, 0))
		for _, number := range edgeNumbers() {
			answers(t, "Nonce", plainNonce(iv, number))(keys.Nonce(iv, number))
		}
		for range 500 {
			number := r.Uint64() >> (2 + r.Intn(62))
			answers(t, "Nonce", plainNonce(iv, number))(keys.Nonce(iv, number))
		}
	}
}

// P12.3: an iv that has not 12 bytes, a number above MaxNumber, both: ErrArg.
func TestNonceRefused(t *testing.T) {
	above := []uint64{api.MaxNumber + 1, api.MaxNumber + 2, 1<<62 + 5, 1<<63 - 1, 1 << 63, 1<<63 + 5, math.MaxUint64 - 1, math.MaxUint64}
	for _, number := range above {
		for _, iv := range someIVs(t) {
			refuses(t, "Nonce above MaxNumber", api.ErrArg)(keys.Nonce(iv, number))
		}
	}
	for _, size := range []int{0, 1, 4, 7, 8, 10, 11, 13, 14, 16, 24, 32, 256, 256 + 12, 65536 + 12, api.MaxBytes + 1} {
		wide := some(size+20, 8)
		for _, number := range append([]uint64{0, 1, api.MaxNumber}, above...) {
			refuses(t, "Nonce of a wrong iv", api.ErrArg)(keys.Nonce(wide[:size], number))
		}
	}
	refuses(t, "Nonce of nothing", api.ErrArg)(keys.Nonce(nil, 0))
}

// P12.4: nonces of unlike numbers are unlike; what is ahead of their last 8 bytes is the iv's, and these tell the number.
func TestNoncesAreUnlike(t *testing.T) {
	for _, iv := range someIVs(t) {
		seen := map[string]uint64{}
		numbers := edgeNumbers()
		for number := range uint64(3000) {
			numbers = append(numbers, number, api.MaxNumber-number, number<<40)
		}
		for _, number := range numbers {
			nonce, e := keys.Nonce(iv, number)
			if e != api.OK || len(nonce) != 12 {
				t.Fatalf("Nonce(%x, %d): %x, %d", iv, number, nonce, e)
			}
			if other, ok := seen[string(nonce)]; ok && other != number {
				t.Errorf("of the iv %x, %d and %d have one nonce %x", iv, number, other, nonce)
			}
			seen[string(nonce)] = number
			if !bytes.Equal(nonce[:4], iv[:4]) {
				t.Errorf("Nonce(%x, %d) begins with %x", iv, number, nonce[:4])
			}
			if back := binary.BigEndian.Uint64(nonce[4:]) ^ binary.BigEndian.Uint64(iv[4:]); back != number {
				t.Errorf("Nonce(%x, %d) tells %d", iv, number, back)
			}
		}
	}
}

// P12.3: masks that are the beginnings of blocks of RFC 8439 (2.3.2, A.1).
func TestMaskOfRFC(t *testing.T) {
	last := all(32, 0)
	last[31] = 1
	second := all(32, 0)
	second[1] = 0xff
	for _, row := range []struct {
		key          []byte
		sample, want string
	}{
		{up(32), "01000000 000000090000004a00000000", "10f1e7e4d1"},
		{all(32, 0), "00000000 000000000000000000000000", "76b8e0ada0"},
		{all(32, 0), "01000000 000000000000000000000000", "9f07e7be55"},
		{last, "01000000 000000000000000000000000", "3aeb5224ec"},
		{second, "02000000 000000000000000000000000", "72d54dfbf1"},
		{all(32, 0), "00000000 000000000000000000000002", "c2c64d378c"},
	} {
		answers(t, row.sample, unhex(t, row.want))(keys.Mask(row.key, unhex(t, row.sample)))
	}
}

// P12.3: many keys and samples; counts at their edges, each byte of a sample and of a key another one.
func TestMaskAgainstPlain(t *testing.T) {
	check := func(key, sample []byte) {
		t.Helper()
		answers(t, "Mask", plainMask(key, sample))(keys.Mask(key, sample))
	}
	key, sample := some(32, 9), some(16, 10)
	for place := range key {
		other := bytes.Clone(key)
		other[place] ^= 0x81
		check(other, sample)
	}
	for place := range sample {
		other := bytes.Clone(sample)
		other[place] ^= 0x81
		check(key, other)
	}
	for _, count := range []uint32{0, 1, 255, 256, 1 << 16, 1 << 24, 0x01020304, 1 << 31, math.MaxUint32} {
		check(key, append(binary.LittleEndian.AppendUint32(nil, count), sample[4:]...))
	}
	for seed := range int64(500) {
		check(some(32, seed), some(16, seed+1000))
	}
	check(all(32, 0xff), all(16, 0xff))
}

// P12.3: a key that has not 32 bytes, a sample that has not 16, both: ErrArg.
func TestMaskRefused(t *testing.T) {
	wide := some(api.MaxBytes+100, 11)
	for _, keySize := range []int{0, 1, 16, 31, 32, 33, 64, 256 + 32, 65536 + 32, api.MaxBytes + 1} {
		for _, sampleSize := range []int{0, 1, 4, 5, 12, 15, 16, 17, 32, 256 + 16, 65536 + 16, api.MaxBytes + 1} {
			if keySize == 32 && sampleSize == 16 {
				answers(t, "Mask", plainMask(wide[:32], wide[:16]))(keys.Mask(wide[:32], wide[:16]))
				continue
			}
			refuses(t, "Mask", api.ErrArg)(keys.Mask(wide[:keySize], wide[:sampleSize]))
		}
	}
	refuses(t, "Mask of no key", api.ErrArg)(keys.Mask(nil, wide[:16]))
	refuses(t, "Mask of no sample", api.ErrArg)(keys.Mask(wide[:32], nil))
}

// R4: what is handed in stays as it was, the spare room behind it too; with errors as well.
func TestHandedInStays(t *testing.T) {
	const room = 100
	for _, size := range []int{0, 1, 11, 12, 13, 15, 16, 17, 31, 32, 33, 256, 257, api.MaxBytes, api.MaxBytes + 1} {
		a, b := some(size+room, 12), some(size+room, 13)
		beforeA, beforeB := bytes.Clone(a), bytes.Clone(b)
		keys.Secret(a[:size], b[:size], true)
		keys.Secret(a[:1], b[:size], false)
		keys.Of(a[:size])
		keys.Next(a[:size])
		keys.Nonce(a[:size], api.MaxNumber)
		keys.Nonce(a[:size], math.MaxUint64)
		keys.Mask(a[:size], b[:size])
		keys.Mask(a[:32], b[:size])
		keys.Mask(a[:size], b[:16])
		if !bytes.Equal(a, beforeA) || !bytes.Equal(b, beforeB) {
			t.Errorf("lists of %d bytes, or the room behind them, were changed", size)
		}
	}
}

// callsOf: every call, with arguments that may be; the three keys of Of one by one.
func callsOf(shared, said, secret, iv, key, sample []byte) map[string]func() []byte {
	return map[string]func() []byte{
		"the client's secret": func() []byte { b, _ := keys.Secret(shared, said, true); return b },
		"the server's secret": func() []byte { b, _ := keys.Secret(shared, said, false); return b },
		"Of: Key":             func() []byte { k, _ := keys.Of(secret); return k.Key },
		"Of: IV":              func() []byte { k, _ := keys.Of(secret); return k.IV },
		"Of: Mask":            func() []byte { k, _ := keys.Of(secret); return k.Mask },
		"Next":                func() []byte { b, _ := keys.Next(secret); return b },
		"Nonce of 0":          func() []byte { b, _ := keys.Nonce(iv, 0); return b },
		"Nonce":               func() []byte { b, _ := keys.Nonce(iv, api.MaxNumber); return b },
		"Mask":                func() []byte { b, _ := keys.Mask(key, sample); return b },
	}
}

// fill changes an answer and its spare room.
func fill(b []byte) {
	b = b[:cap(b)]
	for i := range b {
		b[i] = 0xee
	}
}

// R4: an answer is memory of its own: changing it, its spare room too, changes no argument and no other answer.
func TestAnswersAreNewMemory(t *testing.T) {
	arguments := [][]byte{some(40, 20), some(50, 21), some(32, 22), some(12, 23), some(32, 24), some(16, 25)}
	var before [][]byte
	for _, a := range arguments {
		before = append(before, bytes.Clone(a))
	}
	for name, call := range callsOf(arguments[0], arguments[1], arguments[2], arguments[3], arguments[4], arguments[5]) {
		first, second := call(), call()
		kept := bytes.Clone(first)
		if len(first) == 0 {
			t.Fatalf("%s: nothing", name)
		}
		fill(second)
		if !bytes.Equal(first, kept) {
			t.Errorf("%s: two answers share memory", name)
		}
		if third := call(); !bytes.Equal(third, kept) {
			t.Errorf("%s: an answer hangs on one before", name)
		}
		for i, a := range arguments {
			if !bytes.Equal(a, before[i]) {
				t.Errorf("%s: the answer shares memory with argument %d", name, i)
			}
		}
	}
}

// R4: the three keys of one answer share no memory, their spare room neither.
func TestThreeKeysApart(t *testing.T) {
	want, _ := keys.Of(some(32, 30))
	for changed := range 3 {
		k, _ := keys.Of(some(32, 30))
		lists, wants := [][]byte{k.Key, k.IV, k.Mask}, [][]byte{want.Key, want.IV, want.Mask}
		fill(lists[changed])
		for i := range lists {
			if i != changed && !bytes.Equal(lists[i], wants[i]) {
				t.Errorf("key %d changes with key %d", i, changed)
			}
		}
	}
}

// P12.3: a mask is five bytes: no more of the block stands in its spare room.
func TestMaskHidesTheRest(t *testing.T) {
	mask, _ := keys.Mask(some(32, 31), some(16, 32))
	for i, x := range mask[len(mask):cap(mask)] {
		if x != 0 {
			t.Errorf("byte %d of the spare room: %02x", i, x)
		}
	}
}

// R4, R5: what is told hangs on the bytes as they are at the call, not on their room, on a call before or on one beside.
func TestHangsOnArgumentsAlone(t *testing.T) {
	lists := [][]byte{some(40, 40), some(50, 41), some(32, 42), some(12, 43), some(32, 44), some(16, 45)}
	want := map[string][]byte{}
	for name, call := range callsOf(lists[0], lists[1], lists[2], lists[3], lists[4], lists[5]) {
		want[name] = call()
	}
	for i, list := range lists {
		for place := range list {
			list[place] ^= 0xff
		}
		lists[i] = append(make([]byte, 0, 500), list...)
	}
	for name, call := range callsOf(lists[0], lists[1], lists[2], lists[3], lists[4], lists[5]) {
		if bytes.Equal(call(), want[name]) {
			t.Errorf("%s: the answer is kept", name)
		}
	}
	keys.Of(nil)
	keys.Secret(nil, nil, true)
	for _, list := range lists {
		for place := range list {
			list[place] ^= 0xff
		}
	}
	var group sync.WaitGroup
	for range 8 {
		group.Go(func() {
			for name, call := range callsOf(lists[0], lists[1], lists[2], lists[3], lists[4], lists[5]) {
				if b := call(); !bytes.Equal(b, want[name]) {
					t.Errorf("%s: %x, not %x", name, b, want[name])
				}
			}
		})
	}
	group.Wait()
}

// R4: one list may be handed in twice.
func TestSameListTwice(t *testing.T) {
	b := some(32, 50)
	answers(t, "Secret", plainSecret(b, b, true))(keys.Secret(b, b, true))
	answers(t, "Mask", plainMask(b, b[:16]))(keys.Mask(b, b[:16]))
	answers(t, "Mask", plainMask(b, b[16:]))(keys.Mask(b, b[16:]))
}
