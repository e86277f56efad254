package hkdf_test

import (
	"bytes"
	libhkdf "crypto/hkdf"
	"crypto/hmac"
	"crypto/sha256"
	"encoding/hex"
	"math"
	"math/rand"
	"strings"
	"sync"
	"testing"

	"mailcoach/api"
	"mailcoach/hkdf"
	"mailcoach/sha"
)

// The limits as the chapter writes them.
const (
	mostBytes = api.MaxBytes - 64
	mostInfo  = api.MaxBytes - 97
)

// keySizes: none, few; a SHA's size and a pad's, and those beside; far above.
var keySizes = []int{0, 1, 2, 20, 31, 32, 33, 62, 63, 64, 65, 66, 127, 128, 129, 1000}

// tellSizes: how many bytes may be told, around each whole part and at the end.
var tellSizes = []int{0, 1, 2, 12, 31, 32, 33, 63, 64, 65, 255, 256, 257, 8127, 8128, 8129, 8159, 8160}

// wrongSizes: how many may not.
var wrongSizes = []int{math.MinInt, math.MinInt32, -8160, -65536 + 5, -33, -32, -1, 8161, 8192, 65535, 65536, 65536 + 5, math.MaxInt32, math.MaxInt}

func unhex(t *testing.T, s string) []byte {
	t.Helper()
	b, err := hex.DecodeString(strings.ReplaceAll(s, " ", ""))
	if err != nil {
		t.Fatal(err)
	}
	return b
}

// some bytes, the same ones for the same size and seed.
func some(size int, seed int64) []byte {
	b := make([]byte, size)
	rand.New(rand.NewSource(seed)).Read(b)
	return b
}

func libraryMac(key, b []byte) [32]byte {
	m := hmac.New(sha256.New, key)
	m.Write(b)
	return [32]byte(m.Sum(nil))
}

func libraryExpand(t *testing.T, key, info []byte, n int) []byte {
	t.Helper()
	if n == 0 {
		return nil
	}
	b, err := libhkdf.Expand(sha256.New, key, string(info), n)
	if err != nil {
		t.Fatal(err)
	}
	return b
}

// nameInfo: the info of a name, as the chapter's words say it.
func nameInfo(name string, context []byte, n int) []byte {
	var b []byte
	b = append(b, byte(n/256), byte(n%256))
	b = append(b, byte(6+len(name)))
	b = append(b, 't', 'l', 's', '1', '3', ' ')
	b = append(b, name...)
	b = append(b, byte(len(context)))
	return append(b, context...)
}

func wantMac(t *testing.T, key, b []byte, want [32]byte) {
	t.Helper()
	if x, e := hkdf.Mac(key, b); x != want || e != api.OK {
		t.Errorf("Mac of %d bytes by a key of %d: %x, %d, not %x", len(b), len(key), x, e, want)
	}
	if x, e := hkdf.Extract(key, b); x != want || e != api.OK {
		t.Errorf("Extract of %d bytes by a salt of %d: %x, %d, not %x", len(b), len(key), x, e, want)
	}
}

func wantNoMac(t *testing.T, key, b []byte, want api.Errno) {
	t.Helper()
	if x, e := hkdf.Mac(key, b); x != [32]byte{} || e != want {
		t.Errorf("Mac of %d bytes by a key of %d: %x, %d", len(b), len(key), x, e)
	}
	if x, e := hkdf.Extract(key, b); x != [32]byte{} || e != want {
		t.Errorf("Extract of %d bytes by a salt of %d: %x, %d", len(b), len(key), x, e)
	}
}

func wantExpand(t *testing.T, key, info []byte, n int, want []byte) {
	t.Helper()
	if b, e := hkdf.Expand(key, info, n); !bytes.Equal(b, want) || len(b) != n || e != api.OK {
		t.Errorf("Expand of a key of %d bytes, info of %d, to %d: %x, %d, not %x", len(key), len(info), n, b, e, want)
	}
}

func wantNoExpand(t *testing.T, key, info []byte, n int, want api.Errno) {
	t.Helper()
	if b, e := hkdf.Expand(key, info, n); len(b) != 0 || e != want {
		t.Errorf("Expand of a key of %d bytes, info of %d, to %d: %d bytes, %d, not %d", len(key), len(info), n, len(b), e, want)
	}
}

func wantLabel(t *testing.T, key []byte, name string, context []byte, n int, want []byte) {
	t.Helper()
	if b, e := hkdf.Label(key, name, context, n); !bytes.Equal(b, want) || len(b) != n || e != api.OK {
		t.Errorf("Label of a key of %d bytes, %q, context of %d, to %d: %x, %d, not %x", len(key), name, len(context), n, b, e, want)
	}
}

func wantNoLabel(t *testing.T, key []byte, name string, context []byte, n int, want api.Errno) {
	t.Helper()
	if b, e := hkdf.Label(key, name, context, n); len(b) != 0 || e != want {
		t.Errorf("Label of a key of %d bytes, a name of %d, context of %d, to %d: %d bytes, %d, not %d", len(key), len(name), len(context), n, len(b), e, want)
	}
}

// P3.1: the chapter's examples, and others of RFC 4231.
func TestMacExamples(t *testing.T) {
	long := strings.Repeat("\xaa", 131)
	for _, c := range []struct{ key, b, want string }{
		{strings.Repeat("\x0b", 20), "Hi There", "b0344c61 d8db3853 5ca8afce af0bf12b 881dc200 c9833da7 26e9376c 2e32cff7"},
		{"Jefe", "what do ya want for nothing?", "5bdcc146 bf60754e 6a042426 089575c7 5a003f08 9d273983 9dec58b9 64ec3843"},
		{strings.Repeat("\xaa", 20), strings.Repeat("\xdd", 50), "773ea91e 36800e46 854db8eb d09181a7 2959098b 3ef8c122 d9635514 ced565fe"},
		{long, "Test Using Larger Than Block-Size Key - Hash Key First", "60e43159 1ee0b67f 0d8a26aa cbf5b77f 8e0bc621 3728c514 0546040f 0ee37f54"},
	} {
		wantMac(t, []byte(c.key), []byte(c.b), [32]byte(unhex(t, c.want)))
	}
}

// P3.1, P3.2: keys and bytes of all sizes around the edges: what the library's HMAC says, of Mac and of Extract.
func TestMacAgainstLibrary(t *testing.T) {
	for _, k := range keySizes {
		key := some(k, int64(k)+1)
		for _, size := range []int{0, 1, 8, 54, 55, 56, 63, 64, 65, 119, 120, 128, 1000} {
			b := some(size, int64(size)+2)
			wantMac(t, key, b, libraryMac(key, b))
		}
	}
}

// P3.1, R4: no key and no bytes, as nil and as empty lists with spare room.
func TestMacOfNone(t *testing.T) {
	want := libraryMac(nil, nil)
	spare := []byte{1, 2, 3}[:0]
	for _, key := range [][]byte{nil, {}, spare} {
		for _, b := range [][]byte{nil, {}, spare} {
			wantMac(t, key, b, want)
		}
	}
}

// P3.1, P3.2: a key of MaxBytes bytes, and bytes of MaxBytes - 64, are taken, alone and together.
func TestMacUpToLimits(t *testing.T) {
	all := some(api.MaxBytes, 3)
	for _, c := range []struct{ key, b int }{
		{api.MaxBytes, 5}, {api.MaxBytes - 1, 5}, {5, mostBytes}, {5, mostBytes - 1}, {64, mostBytes}, {65, mostBytes}, {api.MaxBytes, mostBytes},
	} {
		wantMac(t, all[:c.key], all[:c.b], libraryMac(all[:c.key], all[:c.b]))
	}
}

// P3.1, P3.2, R2: a key above MaxBytes, or bytes above MaxBytes - 64, answer ErrLimit, and nothing beside it.
func TestMacAboveLimits(t *testing.T) {
	all := make([]byte, 3*api.MaxBytes)
	for _, c := range []struct{ key, b int }{
		{api.MaxBytes + 1, 0}, {api.MaxBytes + 1, 5}, {api.MaxBytes + 64, mostBytes}, {3 * api.MaxBytes, 1},
		{0, mostBytes + 1}, {5, mostBytes + 2}, {65, mostBytes + 1}, {5, api.MaxBytes}, {5, api.MaxBytes + 1}, {api.MaxBytes, mostBytes + 1}, {0, 3 * api.MaxBytes},
		{api.MaxBytes + 1, mostBytes + 1}, {3 * api.MaxBytes, 3 * api.MaxBytes},
	} {
		wantNoMac(t, all[:c.key], all[:c.b], api.ErrLimit)
	}
}

// P3.2: the chapter's examples, and others of RFC 5869.
func TestExtractAndExpandExamples(t *testing.T) {
	up := func(from, to byte) []byte {
		var b []byte
		for c := int(from); c <= int(to); c++ {
			b = append(b, byte(c))
		}
		return b
	}
	for _, c := range []struct {
		salt, secret []byte
		key          string
		info         []byte
		want         string
	}{
		{up(0, 0x0c), bytes.Repeat([]byte{0x0b}, 22), "07770936 2c2e32df 0ddc3f0d c47bba63 90b6c73b b50f9c31 22ec844a d7c2b3e5",
			up(0xf0, 0xf9), "3cb25f25 faacd57a 90434f64 d0362f2a 2d2d0a90 cf1a5a4c 5db02d56 ecc4c5bf 34007208 d5b88718 5865"},
		{up(0x60, 0xaf), up(0x00, 0x4f), "06a6b88c 5853361a 06104c9c eb35b45c ef760014 904671014a193f40c15fc244",
			up(0xb0, 0xff), "b11e398dc80327a1c8e7f78c596a49344f012eda2d4efad8a050cc4c19afa97c59045a99cac7827271cb41c65e590e09da3275600c2f09b8367793a9aca3db71cc30c58179ec3e87c14c01d5c1f3434f1d87"},
		{nil, bytes.Repeat([]byte{0x0b}, 22), "19ef24a32c717b167f33a91d6f648bdf96596776afdb6377ac434c1c293ccb04",
			nil, "8da4e775a563c18f715f802a063c5a31b8a11f5c5ee1879ec3454e5f3c738d2d9d201395faa4b61a96c8"},
	} {
		key := unhex(t, c.key)
		if x, e := hkdf.Extract(c.salt, c.secret); !bytes.Equal(x[:], key) || e != api.OK {
			t.Errorf("Extract(%x, %x) = %x, %d, not %x", c.salt, c.secret, x, e, key)
		}
		want := unhex(t, c.want)
		wantExpand(t, key, c.info, len(want), want)
	}
}

// P3.2: every named size of the answer, with keys and info of many sizes: what the library's HKDF says.
func TestExpandAgainstLibrary(t *testing.T) {
	for _, n := range tellSizes {
		key, info := some(32, int64(n)), some(10, int64(n)+1)
		wantExpand(t, key, info, n, libraryExpand(t, key, info, n))
	}
	for _, k := range keySizes {
		key := some(k, int64(k)+3)
		for _, size := range []int{0, 1, 22, 23, 54, 55, 56, 64, 1000} {
			info := some(size, int64(size)+4)
			wantExpand(t, key, info, 70, libraryExpand(t, key, info, 70))
		}
	}
}

// P3.2, R4: no key and no info, as nil and as empty lists; no bytes told.
func TestExpandOfNone(t *testing.T) {
	spare := []byte{1, 2, 3}[:0]
	for _, none := range [][]byte{nil, {}, spare} {
		wantExpand(t, none, none, 33, libraryExpand(t, nil, nil, 33))
		wantExpand(t, none, none, 0, nil)
	}
}

// P3.2: a key of MaxBytes bytes, and info of MaxBytes - 97, are taken, alone and together, for one part and for several.
func TestExpandUpToLimits(t *testing.T) {
	all := some(api.MaxBytes, 5)
	for _, c := range []struct{ key, info, n int }{
		{api.MaxBytes, 5, 8160}, {api.MaxBytes - 1, 5, 1}, {5, mostInfo, 32}, {5, mostInfo, 33}, {65, mostInfo - 1, 96}, {api.MaxBytes, mostInfo, 65}, {api.MaxBytes, mostInfo, 0},
	} {
		key, info := all[:c.key], all[:c.info]
		wantExpand(t, key, info, c.n, libraryExpand(t, key, info, c.n))
	}
}

// P3.2, R2: n that may not be answers ErrArg, whatever else is wrong.
func TestExpandWrongSizes(t *testing.T) {
	big := make([]byte, api.MaxBytes+1)
	for _, n := range wrongSizes {
		wantNoExpand(t, nil, nil, n, api.ErrArg)
		wantNoExpand(t, some(32, 1), some(10, 2), n, api.ErrArg)
		wantNoExpand(t, big, nil, n, api.ErrArg)
		wantNoExpand(t, nil, big, n, api.ErrArg)
		wantNoExpand(t, big, big, n, api.ErrArg)
	}
}

// P3.2, R2: a key above MaxBytes, or info above MaxBytes - 97, answers ErrLimit: also where no bytes, or one part alone, would be told.
func TestExpandAboveLimits(t *testing.T) {
	all := make([]byte, 2*api.MaxBytes)
	for _, n := range []int{0, 1, 32, 33, 8160} {
		for _, c := range []struct{ key, info int }{
			{api.MaxBytes + 1, 0}, {api.MaxBytes + 1, mostInfo}, {2 * api.MaxBytes, 5},
			{0, mostInfo + 1}, {5, mostInfo + 32}, {5, mostInfo + 33}, {5, mostInfo + 34}, {5, api.MaxBytes}, {api.MaxBytes, mostInfo + 1}, {5, 2 * api.MaxBytes},
			{api.MaxBytes + 1, mostInfo + 1},
		} {
			wantNoExpand(t, all[:c.key], all[:c.info], n, api.ErrLimit)
		}
	}
}

// P3.2, P3.3: the chapter's examples of names, and the one key more of RFC 9001 that belongs to them.
func TestLabelExamples(t *testing.T) {
	key, e := hkdf.Extract(unhex(t, "38762cf7 f55934b3 4d179ae6 a4c80cad ccbb7f0a"), unhex(t, "8394c8f0 3e515708"))
	if e != api.OK || !bytes.Equal(key[:], unhex(t, "7db5df06 e7a69e43 2496aded b0085192 35952215 96ae2ae9 fb8115c1 e9ed0a44")) {
		t.Fatalf("%x, %d", key, e)
	}
	client := unhex(t, "c00cf151 ca5be075 ed0ebfb5 c80323c4 2d6b7db6 7881289a f4008f1f 6c357aea")
	wantLabel(t, key[:], "client in", nil, 32, client)
	wantLabel(t, client, "quic key", nil, 16, unhex(t, "1f369613 dd76d546 7730efcb e3b1a22d"))
	wantLabel(t, client, "quic iv", nil, 12, unhex(t, "fa044b2f 42a3fd3b 46fb255c"))
	wantLabel(t, client, "quic hp", nil, 16, unhex(t, "9f50449e 04a0e810 283a1e99 33adedd2"))
}

// P3.3: names and contexts of all sizes around the edges, all bytes in them, and every named n.
func TestLabelAgainstLibrary(t *testing.T) {
	key := some(32, 9)
	check := func(key []byte, name string, context []byte, n int) {
		t.Helper()
		wantLabel(t, key, name, context, n, libraryExpand(t, key, nameInfo(name, context, n), n))
	}
	for _, size := range []int{0, 1, 8, 121, 122, 248, 249} {
		for _, c := range []int{0, 1, 32, 127, 128, 254, 255} {
			check(key, string(some(size, int64(size))), some(c, int64(c)+1), 40)
		}
	}
	for _, n := range tellSizes {
		check(key, "quic key", nil, n)
		check(key, "a name", []byte("context"), n)
	}
	for _, k := range keySizes {
		check(some(k, int64(k)), "quic iv", nil, 33)
	}
	big := some(api.MaxBytes, 8)
	check(big, strings.Repeat("n", 249), some(255, 1), 8160)
	check(big[:api.MaxBytes-1], "", nil, 1)
}

// P3.3: a name's size is told in bytes: letters of several bytes count as so many.
func TestLabelNameIsBytes(t *testing.T) {
	name := strings.Repeat("\u20ac", 83)
	wantLabel(t, nil, name, nil, 32, libraryExpand(t, nil, nameInfo(name, nil, 32), 32))
	wantNoLabel(t, nil, strings.Repeat("\u00e4", 125), nil, 32, api.ErrArg)
	wantNoLabel(t, nil, name+"n", nil, 32, api.ErrArg)
	wantLabel(t, nil, "\xff\xfe\x00", nil, 32, libraryExpand(t, nil, nameInfo("\xff\xfe\x00", nil, 32), 32))
}

// P3.3, R2: a name, a context or an n that may not be answers ErrArg, alone, together, and beside a key that is too great.
func TestLabelWrongArguments(t *testing.T) {
	big := make([]byte, api.MaxBytes+1)
	for _, key := range [][]byte{nil, some(32, 1), big} {
		for _, size := range []int{250, 251, 255, 256, 505, 506, 65536 + 5} {
			wantNoLabel(t, key, strings.Repeat("n", size), nil, 1, api.ErrArg)
			wantNoLabel(t, key, strings.Repeat("n", size), nil, 0, api.ErrArg)
		}
		for _, size := range []int{256, 257, 511, 512, 65536 + 5, api.MaxBytes + 1} {
			wantNoLabel(t, key, "", make([]byte, size), 1, api.ErrArg)
			wantNoLabel(t, key, "", make([]byte, size), 0, api.ErrArg)
		}
		for _, n := range wrongSizes {
			wantNoLabel(t, key, "quic key", nil, n, api.ErrArg)
		}
		wantNoLabel(t, key, strings.Repeat("n", 250), make([]byte, 256), -1, api.ErrArg)
	}
}

// P3.3, R2: a key above MaxBytes answers ErrLimit: also where no bytes would be told.
func TestLabelAboveLimit(t *testing.T) {
	for _, n := range []int{0, 1, 32, 33, 8160} {
		wantNoLabel(t, make([]byte, api.MaxBytes+1), "quic key", nil, n, api.ErrLimit)
		wantNoLabel(t, make([]byte, 2*api.MaxBytes), strings.Repeat("n", 249), make([]byte, 255), n, api.ErrLimit)
	}
}

// P3.4: a key and the same with bytes 00 behind it, up to 64, have one MAC; with 65 they have another.
func TestZerosBehindKey(t *testing.T) {
	b := []byte("some bytes")
	for _, size := range []int{0, 1, 20, 32, 63, 64} {
		key := some(size, int64(size)+20)
		want, e := hkdf.Mac(key, b)
		if e != api.OK {
			t.Fatalf("%d", e)
		}
		for longer := size; longer <= 64; longer++ {
			wantMac(t, append(bytes.Clone(key), make([]byte, longer-size)...), b, want)
		}
		if x, e := hkdf.Mac(append(bytes.Clone(key), make([]byte, 65-size)...), b); x == want || e != api.OK {
			t.Errorf("a key of %d bytes, filled up to 65: %x, %d", size, x, e)
		}
	}
}

// P3.4: a key of more than 64 bytes and its SHA have one MAC, and one row of bytes; one of 64 and its SHA have not.
func TestLongKeyIsItsSum(t *testing.T) {
	b := []byte("some bytes")
	for _, size := range []int{64, 65, 66, 128, 1000, api.MaxBytes} {
		key := some(size, int64(size)+30)
		sum, _ := sha.Sum(key)
		x, e := hkdf.Mac(key, b)
		y, f := hkdf.Mac(sum[:], b)
		if e != api.OK || f != api.OK || (x == y) != (size > 64) {
			t.Errorf("a key of %d bytes: %x, %d; its SHA: %x, %d", size, x, e, y, f)
		}
		if size > 64 {
			told, _ := hkdf.Expand(key, b, 100)
			wantExpand(t, sum[:], b, 100, told)
			told, _ = hkdf.Label(key, "name", b, 100)
			wantLabel(t, sum[:], "name", b, 100, told)
		}
	}
}

// P3.4: fewer bytes of a key and some info begin more of them; not so of a name.
func TestFewerBytesBeginMore(t *testing.T) {
	key, info := some(32, 40), some(12, 41)
	most, _ := hkdf.Expand(key, info, 8160)
	named, _ := hkdf.Label(key, "name", info, 8160)
	if len(most) != 8160 || len(named) != 8160 {
		t.Fatalf("%d, %d bytes", len(most), len(named))
	}
	for _, n := range tellSizes {
		wantExpand(t, key, info, n, most[:n])
		b, _ := hkdf.Label(key, "name", info, n)
		if n >= 12 && n < 8160 && bytes.HasPrefix(named, b) {
			t.Errorf("by a name, %d bytes begin 8160 of them", n)
		}
	}
	for n := range 200 {
		wantExpand(t, key, info, n, most[:n])
	}
}

// R4: what is handed in stays as it was, the spare room behind it too; with errors as well.
func TestHandedInStays(t *testing.T) {
	const room = 200
	for _, size := range []int{0, 10, 32, 64, 65, 255, 256, mostInfo, mostBytes, api.MaxBytes, api.MaxBytes + 1} {
		key, b := some(size+room, 50), some(size+room, 51)
		keyBefore, bBefore := bytes.Clone(key), bytes.Clone(b)
		hkdf.Mac(key[:size], b[:size])
		hkdf.Extract(key[:size], b[:size])
		for _, n := range []int{-1, 0, 1, 40, 8161} {
			hkdf.Expand(key[:size], b[:size], n)
			hkdf.Label(key[:size], "name", b[:size], n)
		}
		if !bytes.Equal(key, keyBefore) || !bytes.Equal(b, bBefore) {
			t.Errorf("lists of %d bytes, or the room behind them, were changed", size)
		}
	}
}

// fill changes an answer and its spare room.
func fill(b []byte) {
	b = b[:cap(b)]
	for i := range b {
		b[i] = 0xee
	}
}

// R4: an answer is memory of its own: changing it, its spare room too, changes no argument and no other answer.
func TestAnswersAreNewMemory(t *testing.T) {
	for _, n := range []int{0, 1, 31, 32, 33, 64, 8160} {
		key, info := some(64, 60), some(33, 61)
		calls := []func() ([]byte, api.Errno){
			func() ([]byte, api.Errno) { return hkdf.Expand(key, info, n) },
			func() ([]byte, api.Errno) { return hkdf.Label(key, "name", info, n) },
		}
		for i, call := range calls {
			first, _ := call()
			second, _ := call()
			kept := bytes.Clone(first)
			fill(second)
			if !bytes.Equal(first, kept) {
				t.Errorf("call %d, %d bytes: two answers share memory", i, n)
			}
			if third, _ := call(); !bytes.Equal(third, kept) {
				t.Errorf("call %d, %d bytes: an answer hangs on one before", i, n)
			}
			if !bytes.Equal(key, some(64, 60)) || !bytes.Equal(info, some(33, 61)) {
				t.Errorf("call %d, %d bytes: an answer shares memory with an argument", i, n)
			}
		}
	}
}

// R4, R5: what is told hangs on the bytes as they are at the call, not on their room, on a call before or on one beside.
func TestHangsOnArgumentsAlone(t *testing.T) {
	key, info := some(40, 70), some(20, 71)
	mac, _ := hkdf.Mac(key, info)
	told, _ := hkdf.Expand(key, info, 100)
	named, _ := hkdf.Label(key, "name", info, 100)
	key[0] ^= 1
	wantMac(t, key, info, libraryMac(key, info))
	wantExpand(t, key, info, 100, libraryExpand(t, key, info, 100))
	key[0] ^= 1
	hkdf.Mac(make([]byte, api.MaxBytes+1), nil)
	hkdf.Expand(key, info, -1)
	wide := append(make([]byte, 0, 4096), key...)
	var group sync.WaitGroup
	for range 8 {
		group.Go(func() {
			wantMac(t, wide, info, mac)
			wantExpand(t, wide, info, 100, told)
			wantLabel(t, wide, "name", info, 100, named)
		})
	}
	group.Wait()
}

// R4: one list may be handed in twice.
func TestSameListTwice(t *testing.T) {
	b := some(64, 80)
	wantMac(t, b, b, libraryMac(b, b))
	wantExpand(t, b, b, 100, libraryExpand(t, b, b, 100))
	wantLabel(t, b, "name", b, 100, libraryExpand(t, b, nameInfo("name", b, 100), 100))
}

// P3.2: the greatest call that may be: its last part, the 255th, is that of the library.
func TestExpandGreatest(t *testing.T) {
	if testing.Short() {
		t.Skip("some seconds")
	}
	all := some(api.MaxBytes, 90)
	wantExpand(t, all, all[:mostInfo], 8160, libraryExpand(t, all, all[:mostInfo], 8160))
}
