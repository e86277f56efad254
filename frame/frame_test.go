package frame_test

import (
	"bytes"
	"encoding/hex"
	"math"
	"math/rand"
	"slices"
	"strings"
	"sync"
	"testing"

	"mailcoach/api"
	"mailcoach/frame"
)

// edgeNumbers: numbers of few bytes around each size of theirs.
var edgeNumbers = []uint64{0, 1, 63, 64, 16383, 16384, 1<<30 - 1, 1 << 30, 1 << 60, 1<<60 + 1, api.MaxNumber - 1, api.MaxNumber}

// tooGreat: numbers above MaxNumber.
var tooGreat = []uint64{api.MaxNumber + 1, 1 << 63, math.MaxUint64}

// namedFields: the fields that each kind's row names, by their letters (S Stream, O Offset, L Limit, C Code, F Fin, D Data, R Ranges).
var namedFields = map[api.FrameKind]string{
	api.FrPadding: "L", api.FrPing: "", api.FrAck: "LR", api.FrReset: "SCL", api.FrStop: "SC", api.FrCrypto: "OD", api.FrStream: "SODF",
	api.FrMaxData: "L", api.FrMaxStreamData: "SL", api.FrMaxStreams: "LF", api.FrDataBlocked: "L", api.FrStreamBlocked: "SL", api.FrClose: "CDF", api.FrDone: "",
}

func unhex(t *testing.T, s string) []byte {
	t.Helper()
	b, err := hex.DecodeString(strings.Join(strings.Fields(s), ""))
	if err != nil {
		t.Fatal(err)
	}
	return b
}

// all: so many bytes that are all x.
func all(size int, x byte) []byte { return bytes.Repeat([]byte{x}, size) }

// pings: so many frames.
func pings(many int) []api.Frame { return slices.Repeat([]api.Frame{{Kind: api.FrPing}}, many) }

// apart: so many ranges of one number each, with one number between two; the first one is from.
func apart(from uint64, many int) (l []api.Range) {
	for i := range uint64(many) {
		l = append(l, api.Range{From: from + 2*i, To: from + 2*i})
	}
	return l
}

// least: a frame of a kind that may be, all of whose fields that may be zero are.
func least(k api.FrameKind) api.Frame {
	f := api.Frame{Kind: k}
	switch k {
	case api.FrPadding:
		f.Limit = 1
	case api.FrAck:
		f.Ranges = []api.Range{{}}
	}
	return f
}

// with: a frame in which a field is what it should be.
func with(f api.Frame, field rune, n uint64) api.Frame {
	switch field {
	case 'S':
		f.Stream = n
	case 'O':
		f.Offset = n
	case 'L':
		f.Limit = n
	case 'C':
		f.Code = n
	case 'F':
		f.Fin = n != 0
	case 'D':
		f.Data = all(int(n), 'x')
	case 'R':
		f.Ranges = []api.Range{{From: 0, To: n}}
	}
	return f
}

func same(a, b api.Frame) bool {
	return a.Kind == b.Kind && a.Stream == b.Stream && a.Offset == b.Offset && a.Limit == b.Limit && a.Code == b.Code && a.Fin == b.Fin &&
		bytes.Equal(a.Data, b.Data) && slices.Equal(a.Ranges, b.Ranges)
}

func sameAll(a, b []api.Frame) bool { return slices.EqualFunc(a, b, same) }

// short: as much of something as a line may tell.
func short[E any](l []E) []E { return l[:min(len(l), 40)] }

func wantPut(t *testing.T, l []api.Frame, want []byte) {
	t.Helper()
	if b, e := frame.Put(l); !bytes.Equal(b, want) || e != api.OK {
		t.Errorf("Put(%v): %x, %d; want %x", short(l), short(b), e, short(want))
	}
}

func wantNoPut(t *testing.T, l []api.Frame, want api.Errno) {
	t.Helper()
	if b, e := frame.Put(l); len(b) != 0 || e != want {
		t.Errorf("Put(%v): %x, %d; want %d", short(l), short(b), e, want)
	}
}

func wantGet(t *testing.T, b []byte, want ...api.Frame) {
	t.Helper()
	if l, e := frame.Get(b); !sameAll(l, want) || e != api.OK {
		t.Errorf("Get(%x): %v, %d; want %v", short(b), short(l), e, short(want))
	}
}

func wantNoGet(t *testing.T, b []byte, want api.Errno) {
	t.Helper()
	if l, e := frame.Get(b); len(l) != 0 || e != want {
		t.Errorf("Get(%x): %v, %d; want %d", short(b), short(l), e, want)
	}
}

// wantBoth: frames are put as bytes, and these are got as they.
func wantBoth(t *testing.T, b []byte, l ...api.Frame) {
	t.Helper()
	wantPut(t, l, b)
	wantGet(t, b, l...)
}

// checkPlain: Get answers what the plain reading says.
func checkPlain(t *testing.T, b []byte) {
	t.Helper()
	want, wantError := plainGet(b)
	if l, e := frame.Get(b); !sameAll(l, want) || e != wantError {
		t.Errorf("Get(%x): %v, %d; want %v, %d", short(b), short(l), e, short(want), wantError)
	}
}

// P7.1, P7.2: the chapter's examples.
func TestExamples(t *testing.T) {
	wantBoth(t, unhex(t, "01 00 00 00"), api.Frame{Kind: api.FrPing}, api.Frame{Kind: api.FrPadding, Limit: 3})
	wantBoth(t, unhex(t, "02 09 05 01 02 02 02"), api.Frame{Kind: api.FrAck, Limit: 5, Ranges: []api.Range{{From: 1, To: 3}, {From: 7, To: 9}}})
	wantBoth(t, unhex(t, "0b 04 02 61 62"), api.Frame{Kind: api.FrStream, Stream: 4, Data: []byte("ab"), Fin: true})
	wantBoth(t, unhex(t, "0e 04 40 46 00"), api.Frame{Kind: api.FrStream, Stream: 4, Offset: 70})
	wantGet(t, unhex(t, "08 04 61 62"), api.Frame{Kind: api.FrStream, Stream: 4, Data: []byte("ab")})
	wantGet(t, unhex(t, "0f 04 05 01 61"), api.Frame{Kind: api.FrStream, Stream: 4, Offset: 5, Data: []byte("a"), Fin: true})
	wantBoth(t, unhex(t, "1c 07 00 02 6e 6f"), api.Frame{Kind: api.FrClose, Code: 7, Data: []byte("no")})
	wantBoth(t, unhex(t, "1d 07 02 6e 6f"), api.Frame{Kind: api.FrClose, Code: 7, Data: []byte("no"), Fin: true})
	wantBoth(t, unhex(t, "13 03"), api.Frame{Kind: api.FrMaxStreams, Limit: 3, Fin: true})
	wantBoth(t, unhex(t, "06 05 01 61"), api.Frame{Kind: api.FrCrypto, Offset: 5, Data: []byte("a")})
	for _, s := range []string{"03", "07", "40 01", "1f", "02 05 00 00 06", "1c 07 01 00"} {
		wantNoGet(t, unhex(t, s), api.ErrForm)
	}
	for _, s := range []string{"04 01", "06 00 05 61", "0a", "02 05"} {
		wantNoGet(t, unhex(t, s), api.ErrShort)
	}
	wantNoGet(t, unhex(t, "02 3f 00 40 40 00"), api.ErrLimit)
	wantNoPut(t, []api.Frame{{Kind: api.FrPing, Limit: 1}}, api.ErrArg)
	wantNoPut(t, []api.Frame{{Kind: api.FrPadding, Limit: 1}, {Kind: api.FrPadding, Limit: 1}}, api.ErrArg)
	wantBoth(t, nil)
	wantGet(t, []byte{})
	wantPut(t, []api.Frame{}, nil)
}

// P7.1, P7.2: each row of the table, its numbers in their order.
func TestRows(t *testing.T) {
	wantBoth(t, unhex(t, "00"), api.Frame{Kind: api.FrPadding, Limit: 1})
	wantBoth(t, unhex(t, "01"), api.Frame{Kind: api.FrPing})
	wantBoth(t, unhex(t, "02 00 00 00 00"), api.Frame{Kind: api.FrAck, Ranges: []api.Range{{}}})
	wantBoth(t, unhex(t, "02 14 09 02 03 05 01 04 02"), api.Frame{Kind: api.FrAck, Limit: 9, Ranges: []api.Range{{From: 1, To: 3}, {From: 9, To: 10}, {From: 17, To: 20}}})
	wantBoth(t, unhex(t, "04 01 40 ff 03"), api.Frame{Kind: api.FrReset, Stream: 1, Code: 255, Limit: 3})
	wantBoth(t, unhex(t, "05 01 02"), api.Frame{Kind: api.FrStop, Stream: 1, Code: 2})
	wantBoth(t, unhex(t, "06 00 00"), api.Frame{Kind: api.FrCrypto})
	wantBoth(t, unhex(t, "06 40 40 03 01 02 03"), api.Frame{Kind: api.FrCrypto, Offset: 64, Data: []byte{1, 2, 3}})
	wantBoth(t, unhex(t, "0a 07 00"), api.Frame{Kind: api.FrStream, Stream: 7})
	wantBoth(t, unhex(t, "10 80 00 40 00"), api.Frame{Kind: api.FrMaxData, Limit: 16384})
	wantBoth(t, unhex(t, "11 02 03"), api.Frame{Kind: api.FrMaxStreamData, Stream: 2, Limit: 3})
	wantBoth(t, unhex(t, "12 04"), api.Frame{Kind: api.FrMaxStreams, Limit: 4})
	wantBoth(t, unhex(t, "13 04"), api.Frame{Kind: api.FrMaxStreams, Limit: 4, Fin: true})
	wantBoth(t, unhex(t, "14 05"), api.Frame{Kind: api.FrDataBlocked, Limit: 5})
	wantBoth(t, unhex(t, "15 06 07"), api.Frame{Kind: api.FrStreamBlocked, Stream: 6, Limit: 7})
	wantBoth(t, unhex(t, "1c 08 00 00"), api.Frame{Kind: api.FrClose, Code: 8})
	wantBoth(t, unhex(t, "1d 08 00"), api.Frame{Kind: api.FrClose, Code: 8, Fin: true})
	wantBoth(t, unhex(t, "1e"), api.Frame{Kind: api.FrDone})
}

// P7.1, P7.2: a FrStream is put with the bit 2, with the bit 4 if its Offset is not 0; it's got of all of its types.
func TestStreamTypes(t *testing.T) {
	ab := []byte("ab")
	wantBoth(t, unhex(t, "0a 04 02 61 62"), api.Frame{Kind: api.FrStream, Stream: 4, Data: ab})
	wantBoth(t, unhex(t, "0b 04 02 61 62"), api.Frame{Kind: api.FrStream, Stream: 4, Data: ab, Fin: true})
	wantBoth(t, unhex(t, "0e 04 01 02 61 62"), api.Frame{Kind: api.FrStream, Stream: 4, Offset: 1, Data: ab})
	wantBoth(t, unhex(t, "0f 04 01 02 61 62"), api.Frame{Kind: api.FrStream, Stream: 4, Offset: 1, Data: ab, Fin: true})
	wantGet(t, unhex(t, "08 04 61 62"), api.Frame{Kind: api.FrStream, Stream: 4, Data: ab})
	wantGet(t, unhex(t, "09 04 61 62"), api.Frame{Kind: api.FrStream, Stream: 4, Data: ab, Fin: true})
	wantGet(t, unhex(t, "0c 04 01 61 62"), api.Frame{Kind: api.FrStream, Stream: 4, Offset: 1, Data: ab})
	wantGet(t, unhex(t, "0d 04 01 61 62"), api.Frame{Kind: api.FrStream, Stream: 4, Offset: 1, Data: ab, Fin: true})
	wantGet(t, unhex(t, "0e 04 00 02 61 62"), api.Frame{Kind: api.FrStream, Stream: 4, Data: ab})
	wantGet(t, unhex(t, "0c 04 00"), api.Frame{Kind: api.FrStream, Stream: 4})
	wantGet(t, unhex(t, "08 04"), api.Frame{Kind: api.FrStream, Stream: 4})
	// What looks like frames behind it is Data, if it goes up to the end; and there are frames ahead of it.
	wantGet(t, unhex(t, "01 08 04 01 00 03"), api.Frame{Kind: api.FrPing}, api.Frame{Kind: api.FrStream, Stream: 4, Data: []byte{1, 0, 3}})
	wantGet(t, unhex(t, "0a 04 01 01 01"), api.Frame{Kind: api.FrStream, Stream: 4, Data: []byte{1}}, api.Frame{Kind: api.FrPing})
}

// P7.2: of the types of one byte, those of the table are some; no other one is, nor one that is told by more bytes.
func TestTypes(t *testing.T) {
	for n := range uint64(64) {
		one, behind := []byte{byte(n)}, bytes.Repeat([]byte{0}, 12)
		if _, known := plainRows[byte(n)]; !known {
			wantNoGet(t, one, api.ErrForm)
			wantNoGet(t, slices.Concat(one, behind), api.ErrForm)
		} else if l, e := frame.Get(slices.Concat(one, behind)); e != api.OK || l[0].Kind != plainRows[byte(n)].kind {
			t.Errorf("type %d: %v, %d", n, l, e)
		}
		for _, size := range []int{2, 4, 8} {
			wantNoGet(t, numberOf(n, size), api.ErrForm)
			wantNoGet(t, slices.Concat(numberOf(n, size), behind), api.ErrForm)
			wantNoGet(t, slices.Concat([]byte{1, 0}, numberOf(n, size), behind), api.ErrForm)
			wantNoGet(t, numberOf(n, size)[:size-1], api.ErrShort)
		}
	}
	for _, n := range edgeNumbers[3:] {
		wantNoGet(t, shortest(n), api.ErrForm)
	}
	wantNoGet(t, shortest(0x100000001), api.ErrForm)
}

// P7.1, P7.2: numbers of every size, in each field that a kind has.
func TestNumbers(t *testing.T) {
	for k, fields := range namedFields {
		for _, field := range strings.ReplaceAll(fields, "D", "") {
			for _, n := range edgeNumbers {
				f := with(least(k), field, n)
				if k == api.FrPadding && (n < 1 || n > 65536) || k == api.FrMaxStreams && field == 'L' && n > 1<<60 {
					wantNoPut(t, []api.Frame{f}, api.ErrArg)
					continue
				}
				wantBoth(t, plainFrame(f), f)
			}
		}
	}
}

// P7.1: what a row doesn't name must be zero; what it names may be else.
func TestFieldsOfKinds(t *testing.T) {
	for k, fields := range namedFields {
		for _, field := range "SOLCFDR" {
			f := with(least(k), field, 1)
			if strings.ContainsRune(fields, field) {
				wantBoth(t, plainFrame(f), f)
			} else {
				wantNoPut(t, []api.Frame{f}, api.ErrArg)
			}
		}
	}
	// Empty is none, and fits.
	wantPut(t, []api.Frame{{Kind: api.FrPing, Data: []byte{}, Ranges: []api.Range{}}}, []byte{1})
	wantNoPut(t, []api.Frame{{Kind: api.FrPing, Ranges: []api.Range{{}}}}, api.ErrArg)
	wantNoPut(t, []api.Frame{{Kind: api.FrPing, Data: []byte{0}}}, api.ErrArg)
}

// P7.1: a number above MaxNumber may not be, in any field.
func TestNumbersTooGreat(t *testing.T) {
	for k, fields := range namedFields {
		for _, field := range strings.Trim(fields, "DF") {
			for _, n := range tooGreat {
				wantNoPut(t, []api.Frame{with(least(k), field, n)}, api.ErrArg)
				wantNoPut(t, []api.Frame{{Kind: api.FrPing}, with(least(k), field, n), {Kind: api.FrDone}}, api.ErrArg)
			}
		}
	}
	for _, n := range tooGreat {
		wantNoPut(t, []api.Frame{{Kind: api.FrAck, Ranges: []api.Range{{From: n, To: n}}}}, api.ErrArg)
		wantNoPut(t, []api.Frame{{Kind: api.FrAck, Ranges: []api.Range{{From: 1, To: n}}}}, api.ErrArg)
		wantNoPut(t, []api.Frame{{Kind: api.FrAck, Ranges: []api.Range{{From: n, To: n}, {From: 5, To: 9}}}}, api.ErrArg)
	}
}

// P7.1, P7.3: kinds that are none.
func TestKindsThatAreNone(t *testing.T) {
	for k := range 256 {
		kind := api.FrameKind(k)
		if _, is := namedFields[kind]; is {
			wantBoth(t, plainFrame(least(kind)), least(kind))
			continue
		}
		wantNoPut(t, []api.Frame{{Kind: kind}}, api.ErrArg)
		wantNoPut(t, []api.Frame{{Kind: kind, Limit: 1}}, api.ErrArg)
		wantNoPut(t, []api.Frame{{Kind: api.FrPing}, {Kind: kind}}, api.ErrArg)
		wantNoPut(t, []api.Frame{{Kind: kind}, {Kind: api.FrPing}}, api.ErrArg)
	}
}

// P7.3: it's the kind alone that counts, whether the frame may be or not.
func TestEliciting(t *testing.T) {
	for k := range 256 {
		kind := api.FrameKind(k)
		_, want := namedFields[kind]
		if kind == api.FrPadding || kind == api.FrAck || kind == api.FrClose {
			want = false
		}
		whole := api.Frame{Kind: kind, Stream: math.MaxUint64, Offset: 1, Limit: 1, Code: 1, Fin: true, Data: []byte{1}, Ranges: []api.Range{{From: 1}}}
		for _, f := range []api.Frame{{Kind: kind}, least(kind), whole} {
			if frame.Eliciting(f) != want {
				t.Errorf("Eliciting(%v): not %v", f, want)
			}
		}
	}
}

// P7.1: FrPadding of 1 to 65536, as many bytes 00; not two one behind the other.
func TestPutPadding(t *testing.T) {
	for _, n := range []uint64{1, 2, 3, 64, 65535, 65536} {
		wantBoth(t, all(int(n), 0), api.Frame{Kind: api.FrPadding, Limit: n})
	}
	for _, n := range []uint64{0, 65537, api.MaxNumber, math.MaxUint64} {
		wantNoPut(t, []api.Frame{{Kind: api.FrPadding, Limit: n}}, api.ErrArg)
	}
	pad, ping := api.Frame{Kind: api.FrPadding, Limit: 2}, api.Frame{Kind: api.FrPing}
	wantBoth(t, unhex(t, "00 00 01 00 00"), pad, ping, pad)
	wantBoth(t, unhex(t, "01 01 00 00"), ping, ping, pad)
	wantNoPut(t, []api.Frame{pad, pad}, api.ErrArg)
	wantNoPut(t, []api.Frame{ping, pad, pad, ping}, api.ErrArg)
	wantNoPut(t, []api.Frame{pad, ping, pad, pad}, api.ErrArg)
}

// P7.2: bytes 00 one behind the other are one frame, up to 65536 of them.
func TestGetPadding(t *testing.T) {
	most := api.Frame{Kind: api.FrPadding, Limit: 65536}
	full := all(65536, 0)
	wantGet(t, slices.Concat(full, []byte{1}, full), most, api.Frame{Kind: api.FrPing}, most)
	wantNoGet(t, all(65537, 0), api.ErrLimit)
	wantNoGet(t, all(65538, 0), api.ErrLimit)
	wantNoGet(t, all(api.MaxBytes, 0), api.ErrLimit)
	wantNoGet(t, slices.Concat([]byte{1}, all(65537, 0), []byte{3}), api.ErrLimit)
	wantNoGet(t, slices.Concat(full, []byte{3}, all(65537, 0)), api.ErrForm)
	wantNoGet(t, slices.Concat(full, []byte{0x40}), api.ErrShort)
	// A type 0 of two bytes doesn't count with those ahead of it.
	wantNoGet(t, unhex(t, "00 00 40 00"), api.ErrForm)
	wantNoGet(t, slices.Concat(full, []byte{0x40, 0}), api.ErrForm)
	// The 00 of another frame isn't padding.
	wantGet(t, unhex(t, "00 10 00 00"), api.Frame{Kind: api.FrPadding, Limit: 1}, api.Frame{Kind: api.FrMaxData}, api.Frame{Kind: api.FrPadding, Limit: 1})
}

// P7.1, P7.2: sets that a FrAck may have.
func TestAckSets(t *testing.T) {
	top := uint64(api.MaxNumber)
	for _, l := range [][]api.Range{
		apart(0, 1), apart(5, 1), apart(top, 1), apart(0, 2), apart(0, 64), apart(1, 64), apart(77, 63), apart(top-126, 64),
		{{From: 0, To: top}}, {{From: 0, To: 0}, {From: 2, To: top}}, {{From: 0, To: top - 2}, {From: top, To: top}}, {{From: 0, To: 0}, {From: top, To: top}},
		{{From: 3, To: 9}, {From: 11, To: 11}, {From: 100, To: 20000}, {From: 1 << 31, To: 1 << 40}},
	} {
		f := api.Frame{Kind: api.FrAck, Limit: 3, Ranges: l}
		wantBoth(t, plainFrame(f), f)
	}
	wantBoth(t, slices.Concat([]byte{2, 0x40, 126, 0, 63, 0}, all(2*63, 0)), api.Frame{Kind: api.FrAck, Ranges: apart(0, 64)})
	wantBoth(t, unhex(t, "02 ff ff ff ff ff ff ff ff 00 00 ff ff ff ff ff ff ff ff"), api.Frame{Kind: api.FrAck, Ranges: []api.Range{{From: 0, To: top}}})
}

// P7.1: lists of ranges that are no set of a FrAck.
func TestPutNoSet(t *testing.T) {
	for _, l := range [][]api.Range{
		nil, {}, apart(0, 65), apart(0, 200),
		{{From: 2, To: 1}}, {{From: 1, To: 0}}, {{From: api.MaxNumber, To: 0}}, {{From: 1, To: 3}, {From: 6, To: 5}}, {{From: 2, To: 1}, {From: 6, To: 7}},
		{{From: 1, To: 3}, {From: 4, To: 5}}, {{From: 1, To: 3}, {From: 3, To: 5}}, {{From: 1, To: 3}, {From: 2, To: 5}}, {{From: 1, To: 3}, {From: 1, To: 3}},
		{{From: 1, To: 9}, {From: 3, To: 4}}, {{From: 5, To: 5}, {From: 1, To: 3}}, {{From: 1, To: 1}, {From: 9, To: 9}, {From: 5, To: 5}}, {{From: 1, To: 1}, {From: 3, To: 3}, {From: 4, To: 4}},
		{{From: api.MaxNumber, To: api.MaxNumber}, {From: 0, To: 0}}, {{From: 0, To: 0}, {From: 0, To: 0}}, {{From: 0, To: 0}, {From: 1, To: 1}},
	} {
		wantNoPut(t, []api.Frame{{Kind: api.FrAck, Ranges: l}}, api.ErrArg)
	}
}

// P7.2: ranges with a number below 0 are refused as soon as that is told, whether bytes follow or not.
func TestGetRangesBelowZero(t *testing.T) {
	for _, s := range []string{
		"02 05 00 00 06", "02 00 00 00 01", "02 05 00 00 ff ff ff ff ff ff ff ff", "02 05 00 01 06", "02 05 00 3f 06",
		"02 05 00 01 05 00", "02 05 00 01 04 00", "02 05 00 01 00 04", "02 05 00 01 00 ff ff ff ff ff ff ff ff", // the one told ahead leaves no room
		"02 05 00 01 00 00 04", "02 05 00 02 00 00 04", "02 05 00 01 03 00 01", "02 05 00 02 00 00 01 01", "02 05 00 02 00 00 00 02", "02 05 00 02 00 00 01 00 01",
	} {
		b := unhex(t, s)
		wantNoGet(t, b, api.ErrForm)
		wantNoGet(t, slices.Concat(b, all(200, 0)), api.ErrForm)
		wantNoGet(t, b[:len(b)-1], api.ErrShort)
		checkPlain(t, b)
	}
	wantGet(t, unhex(t, "02 05 00 00 05"), api.Frame{Kind: api.FrAck, Ranges: []api.Range{{From: 0, To: 5}}})
	wantGet(t, unhex(t, "02 05 00 01 03 00 00"), api.Frame{Kind: api.FrAck, Ranges: []api.Range{{From: 0, To: 0}, {From: 2, To: 5}}})
	wantGet(t, unhex(t, "02 05 00 01 00 00 03"), api.Frame{Kind: api.FrAck, Ranges: []api.Range{{From: 0, To: 3}, {From: 5, To: 5}}})
	wantGet(t, unhex(t, "02 05 00 01 00 03 00"), api.Frame{Kind: api.FrAck, Ranges: []api.Range{{From: 0, To: 0}, {From: 5, To: 5}}})
}

// P7.2: more than MaxRanges ranges are refused as soon as their number is told.
func TestGetTooManyRanges(t *testing.T) {
	for _, s := range []string{"02 3f 00 40 40", "02 00 00 40 40", "02 3f 00 ff ff ff ff ff ff ff ff", "02 3f 00 40 40 3f 3f", "01 02 3f 00 40 41 03"} {
		wantNoGet(t, unhex(t, s), api.ErrLimit)
	}
	wantNoGet(t, slices.Concat(unhex(t, "02 43 e8 00 40 40 00"), all(2*64, 0)), api.ErrLimit)
	wantNoGet(t, unhex(t, "02 3f 00 40"), api.ErrShort)
	wantNoGet(t, unhex(t, "02 3f 00 3f"), api.ErrShort)
	wantNoGet(t, unhex(t, "02 3f 00 3f 40 40"), api.ErrForm)
	wantGet(t, slices.Concat(unhex(t, "02 43 e8 00 40 3f 00"), all(2*63, 0)), api.Frame{Kind: api.FrAck, Ranges: apart(1000-126, 64)})
}

// P7.1, P7.2: Limit of a FrMaxStreams is at most 2^60.
func TestMaxStreams(t *testing.T) {
	for _, fin := range []bool{false, true} {
		f := api.Frame{Kind: api.FrMaxStreams, Limit: 1 << 60, Fin: fin}
		wantBoth(t, plainFrame(f), f)
		for _, n := range []uint64{1<<60 + 1, 1 << 61, api.MaxNumber} {
			f.Limit = n
			wantNoPut(t, []api.Frame{f}, api.ErrArg)
			wantNoGet(t, plainFrame(f), api.ErrForm)
			wantNoGet(t, slices.Concat(plainFrame(f), []byte{3}), api.ErrForm)
		}
	}
}

// P7.2: of a FrClose of type 28 a number stands behind Code that is 0, in however many bytes.
func TestCloseNumber(t *testing.T) {
	want := api.Frame{Kind: api.FrClose, Code: 7, Data: []byte("no")}
	for _, size := range []int{1, 2, 4, 8} {
		wantGet(t, slices.Concat([]byte{28, 7}, numberOf(0, size), []byte{2, 'n', 'o'}), want)
		for _, n := range []uint64{1, 2, 63} {
			wantNoGet(t, slices.Concat([]byte{28, 7}, numberOf(n, size), []byte{2, 'n', 'o'}), api.ErrForm)
			wantNoGet(t, slices.Concat([]byte{28, 7}, numberOf(n, size)), api.ErrForm)
		}
	}
	wantGet(t, unhex(t, "1d 07 01 00"), api.Frame{Kind: api.FrClose, Code: 7, Data: []byte{0}, Fin: true})
}

// P7.1, P7.2: Offset and how many bytes Data has are together at most MaxNumber.
func TestOffsetAndData(t *testing.T) {
	for _, k := range []api.FrameKind{api.FrCrypto, api.FrStream} {
		for _, size := range []int{0, 1, 2, 63, 64, 1000} {
			f := api.Frame{Kind: k, Offset: api.MaxNumber - uint64(size), Data: all(size, 'x')}
			wantBoth(t, plainFrame(f), f)
			if f.Offset++; size == 0 {
				wantNoPut(t, []api.Frame{f}, api.ErrArg)
				continue
			}
			wantNoPut(t, []api.Frame{f}, api.ErrArg)
			b := plainFrame(f)
			for cut := range size + 1 {
				wantNoGet(t, b[:len(b)-cut], api.ErrForm)
			}
			wantNoGet(t, b[:len(b)-size-1], api.ErrShort)
		}
	}
	for _, k := range []api.FrameKind{api.FrCrypto, api.FrStream} { // the sum wraps round
		wantNoPut(t, []api.Frame{{Kind: k, Offset: math.MaxUint64, Data: []byte("a")}}, api.ErrArg)
		wantNoPut(t, []api.Frame{{Kind: k, Offset: math.MaxUint64 - 9, Data: all(64, 'x')}}, api.ErrArg)
	}
	top := "ff ff ff ff ff ff ff ff "
	wantGet(t, unhex(t, "0c 04"+top), api.Frame{Kind: api.FrStream, Stream: 4, Offset: api.MaxNumber})
	wantNoGet(t, unhex(t, "0c 04"+top+"61"), api.ErrForm)
	wantNoGet(t, unhex(t, "0d 04"+top+"01"), api.ErrForm)
	wantGet(t, unhex(t, "0c 04 ff ff ff ff ff ff ff fe 61"), api.Frame{Kind: api.FrStream, Stream: 4, Offset: api.MaxNumber - 1, Data: []byte("a")})
	wantNoGet(t, unhex(t, "0e 04"+top+top), api.ErrForm)
	wantNoGet(t, unhex(t, "06"+top+top), api.ErrForm)
	wantNoGet(t, unhex(t, "06 00"+top), api.ErrShort)
	wantNoGet(t, unhex(t, "06 01"+top), api.ErrForm)
	wantNoGet(t, unhex(t, "1d 00"+top), api.ErrShort)
	wantNoGet(t, unhex(t, "1d 05"+top), api.ErrShort)
}

// P7.1, P7.2: up to MaxFrames frames; a FrPadding is one, however many bytes it has.
func TestMaxFrames(t *testing.T) {
	wantBoth(t, all(1023, 1), pings(1023)...)
	wantBoth(t, all(1024, 1), pings(1024)...)
	for _, many := range []int{1025, 1026, 5000} {
		wantNoPut(t, pings(many), api.ErrLimit)
		wantNoGet(t, all(many, 1), api.ErrLimit)
	}
	pad := api.Frame{Kind: api.FrPadding, Limit: 65536}
	wantBoth(t, slices.Concat(all(1023, 1), all(65536, 0)), append(pings(1023), pad)...)
	wantBoth(t, slices.Concat(all(65536, 0), all(1023, 1)), append([]api.Frame{pad}, pings(1023)...)...)
	wantNoPut(t, append(pings(1024), pad), api.ErrLimit)
	wantNoGet(t, slices.Concat(all(1024, 1), []byte{0}), api.ErrLimit)
	// What begins behind MaxFrames frames is refused ahead of what it is.
	for _, s := range []string{"03", "40", "40 01", "c0 00", "04", "0a", "1c 07 01"} {
		wantNoGet(t, slices.Concat(all(1024, 1), unhex(t, s)), api.ErrLimit)
	}
	wantNoGet(t, slices.Concat(all(1023, 1), []byte{3, 1}), api.ErrForm)
	wantNoGet(t, slices.Concat(all(1023, 1), []byte{4, 1}), api.ErrShort)
	var turns []api.Frame
	for range 512 {
		turns = append(turns, api.Frame{Kind: api.FrPadding, Limit: 3}, api.Frame{Kind: api.FrPing})
	}
	wantBoth(t, bytes.Repeat([]byte{0, 0, 0, 1}, 512), turns...)
}

// P7.1: up to MaxBytes bytes, of whatever they are.
func TestPutMaxBytes(t *testing.T) {
	most := api.MaxBytes - 1 - 1 - 4 // beside the type, Offset and how many there are
	for _, add := range []int{-1, 0} {
		f := api.Frame{Kind: api.FrCrypto, Data: all(most+add, 'x')}
		wantBoth(t, plainFrame(f), f)
	}
	one := api.Frame{Kind: api.FrCrypto, Data: all(most-1, 'x')}
	wantBoth(t, append(plainFrame(one), 1), one, api.Frame{Kind: api.FrPing})
	wantNoPut(t, []api.Frame{{Kind: api.FrCrypto, Data: all(most+1, 'x')}}, api.ErrLimit)
	wantNoPut(t, []api.Frame{{Kind: api.FrCrypto, Offset: 64, Data: all(most, 'x')}}, api.ErrLimit)
	wantNoPut(t, []api.Frame{{Kind: api.FrCrypto, Data: all(most, 'x')}, {Kind: api.FrPing}}, api.ErrLimit)
	wantNoPut(t, []api.Frame{{Kind: api.FrPing}, {Kind: api.FrCrypto, Data: all(most, 'x')}}, api.ErrLimit)
	wantNoPut(t, []api.Frame{{Kind: api.FrClose, Data: all(2*api.MaxBytes, 'x')}}, api.ErrLimit)
	wantNoPut(t, []api.Frame{{Kind: api.FrStream, Data: all(api.MaxBytes, 'x')}}, api.ErrLimit)
	var pads []api.Frame
	for range 15 {
		pads = append(pads, api.Frame{Kind: api.FrPadding, Limit: 65536}, api.Frame{Kind: api.FrPing})
	}
	fits := append(slices.Clone(pads), api.Frame{Kind: api.FrPadding, Limit: 65536 - 15})
	wantBoth(t, plainPut(fits), fits...)
	wantNoPut(t, append(slices.Clone(pads), api.Frame{Kind: api.FrPadding, Limit: 65536 - 14}), api.ErrLimit)
	wantNoPut(t, append(slices.Clone(fits), api.Frame{Kind: api.FrPing}), api.ErrLimit)
}

// P7.2: up to MaxBytes bytes; of more nothing is read.
func TestGetMaxBytes(t *testing.T) {
	data := all(api.MaxBytes-2, 'x')
	b := slices.Concat([]byte{8, 4}, data)
	wantGet(t, b, api.Frame{Kind: api.FrStream, Stream: 4, Data: data})
	wantNoGet(t, append(b, 'x'), api.ErrLimit)
	wantNoGet(t, all(api.MaxBytes+1, 3), api.ErrLimit)
	wantNoGet(t, all(api.MaxBytes, 3), api.ErrForm)
	wantNoGet(t, all(api.MaxBytes, 1), api.ErrLimit)
	wantNoGet(t, all(2*api.MaxBytes, 0), api.ErrLimit)
	// Such a frame is put with its size, for which there is no room.
	wantNoPut(t, []api.Frame{{Kind: api.FrStream, Stream: 4, Data: data}}, api.ErrLimit)
}

// P7.1: what may not be is refused ahead of what is too much.
func TestPutRefusesInOrder(t *testing.T) {
	wrong := api.Frame{Kind: api.FrPing, Code: 1}
	wantNoPut(t, append(pings(1024), wrong), api.ErrArg)
	wantNoPut(t, append(pings(5000), wrong), api.ErrArg)
	wantNoPut(t, append([]api.Frame{wrong}, pings(5000)...), api.ErrArg)
	wantNoPut(t, append(pings(5000), api.Frame{}), api.ErrArg)
	wantNoPut(t, append(pings(1024), api.Frame{Kind: api.FrPadding, Limit: 1}, api.Frame{Kind: api.FrPadding, Limit: 1}), api.ErrArg)
	great := api.Frame{Kind: api.FrCrypto, Data: all(api.MaxBytes, 'x')}
	wantNoPut(t, []api.Frame{great, wrong}, api.ErrArg)
	wantNoPut(t, []api.Frame{wrong, great}, api.ErrArg)
	great.Offset = api.MaxNumber
	wantNoPut(t, []api.Frame{great}, api.ErrArg)
	wantNoPut(t, []api.Frame{{Kind: api.FrPing, Data: great.Data}}, api.ErrArg)
}

// P7.2: of several refusals that of the frame ahead counts, and in a frame that of the item ahead.
func TestGetRefusesInOrder(t *testing.T) {
	for s, want := range map[string]api.Errno{
		"01 03 04 01": api.ErrForm, "01 40 01 04": api.ErrForm, "1c 07 01 05 61": api.ErrForm, "1c 07 00 05 61": api.ErrShort, "1c 07": api.ErrShort, "1c 40": api.ErrShort,
		"02 05 00 00 06 03": api.ErrForm, "02 05 00 40 40 06": api.ErrLimit, "02 05 00 00 05 03": api.ErrForm, "02 05 00 01 05": api.ErrShort,
		"04 01 02 40": api.ErrShort, "04 01 02 40 05 03": api.ErrForm, "13 d0 00 00 00 00 00 00 01 04": api.ErrForm, "12 d0 00 00 00 00 00 00": api.ErrShort,
		"0a 01 05 03 03": api.ErrShort, "08 c0 03": api.ErrShort, "03 02 3f 00 40 40": api.ErrForm, "02 3f 00 40 40 03": api.ErrLimit,
	} {
		wantNoGet(t, unhex(t, s), want)
		checkPlain(t, unhex(t, s))
	}
}

// P7.2: numbers, but types, may be told by more bytes than need be.
func TestLongNumbers(t *testing.T) {
	for _, size := range []int{2, 4, 8} {
		n := func(x uint64) []byte { return numberOf(x, size) }
		wantGet(t, slices.Concat([]byte{4}, n(1), n(2), n(3)), api.Frame{Kind: api.FrReset, Stream: 1, Code: 2, Limit: 3})
		wantGet(t, slices.Concat([]byte{15}, n(1), n(2), n(3), []byte("abc")), api.Frame{Kind: api.FrStream, Stream: 1, Offset: 2, Data: []byte("abc"), Fin: true})
		wantGet(t, slices.Concat([]byte{2}, n(9), n(5), n(1), n(2), n(2), n(2)), api.Frame{Kind: api.FrAck, Limit: 5, Ranges: []api.Range{{From: 1, To: 3}, {From: 7, To: 9}}})
		wantGet(t, slices.Concat([]byte{16}, n(0), []byte{0}), api.Frame{Kind: api.FrMaxData}, api.Frame{Kind: api.FrPadding, Limit: 1})
	}
}

// P7.2: bytes that are cut off anywhere in a frame are too few.
func TestCutAnywhere(t *testing.T) {
	for _, s := range []string{
		"02 49 00 7f ff 03 02 02 02 03 00 00 07", "04 41 00 80 01 00 00 05", "05 c0 00 00 00 00 00 00 01 02", "06 40 40 03 61 62 63", "0a 04 02 61 62", "0b 44 44 02 61 62",
		"0e 04 40 46 03 61 62 63", "0f 04 01 00", "10 80 00 00 05", "11 40 44 05", "12 c0 00 00 00 00 00 00 05", "13 44 44", "14 05", "15 05 40 05", "1c 07 00 02 6e 6f", "1d 07 40 02 6e 6f",
	} {
		b := unhex(t, s)
		if l, e := frame.Get(b); len(l) != 1 || e != api.OK {
			t.Errorf("Get(%x): %v, %d", b, l, e)
		}
		for cut := 1; cut < len(b); cut++ {
			wantNoGet(t, b[:cut], api.ErrShort)
			wantNoGet(t, slices.Concat([]byte{1}, b[:cut]), api.ErrShort)
		}
	}
	for _, s := range []string{"08 44 44", "0d 44 44 80 00 00 05"} { // up to Data, that may be cut
		b := unhex(t, s)
		for cut := 1; cut < len(b); cut++ {
			wantNoGet(t, b[:cut], api.ErrShort)
		}
		for more := range 3 {
			checkPlain(t, append(slices.Clone(b), "abc"[:more]...))
		}
	}
}

// maker makes frames and bytes by a row of numbers of no order, the same ones for the same seed.
type maker struct{ *rand.Rand }

func newMaker(seed int64) maker { return maker{rand.New(rand.NewSource(seed))} }

// number: an edge, or one of any size.
func (m maker) number(most uint64) uint64 {
	n := m.Uint64() >> m.Intn(64)
	if m.Intn(3) == 0 {
		n = edgeNumbers[m.Intn(len(edgeNumbers))]
	}
	if most == math.MaxUint64 {
		return n
	}
	return n % (most + 1)
}

func (m maker) data() []byte {
	b := make([]byte, m.Intn(1<<m.Intn(9)))
	m.Read(b)
	return b
}

// ranges: a set of 1 to 64 ranges.
func (m maker) ranges() (l []api.Range) {
	next := m.number(1 << 20)
	for range 1 + m.Intn(1<<m.Intn(7)) {
		r := api.Range{From: next, To: next + m.number(1<<m.Intn(40))}
		l = append(l, r)
		next = r.To + 2 + uint64(m.Intn(3))
	}
	return l
}

// frame: one that may be.
func (m maker) frame() api.Frame {
	f := api.Frame{Kind: api.FrameKind(1 + m.Intn(14))}
	for _, field := range namedFields[f.Kind] {
		switch field {
		case 'D':
			f.Data = m.data()
		case 'R':
			f.Ranges = m.ranges()
		default:
			f = with(f, field, m.number(api.MaxNumber))
		}
	}
	switch f.Kind {
	case api.FrPadding:
		f.Limit = 1 + uint64(m.Intn(1<<m.Intn(17)))
	case api.FrMaxStreams:
		f.Limit = min(f.Limit, 1<<60)
	case api.FrCrypto, api.FrStream:
		f.Offset = min(f.Offset, api.MaxNumber-uint64(len(f.Data)))
	}
	return f
}

// frames: up to so many that may be.
func (m maker) frames(most int) (l []api.Frame) {
	for range m.Intn(most + 1) {
		f := m.frame()
		if f.Kind == api.FrPadding && len(l) > 0 && l[len(l)-1].Kind == api.FrPadding {
			continue
		}
		l = append(l, f)
	}
	return l
}

// P7.1, P7.2, P7.4: what is put is what the table says, and is got as it was.
func TestPutIsGot(t *testing.T) {
	m := newMaker(7)
	for range 3000 {
		l := m.frames(12)
		wantBoth(t, plainPut(l), l...)
	}
}

// checkGotIsPut: what is got may be put, and is got as it was.
func checkGotIsPut(t *testing.T, b []byte) {
	t.Helper()
	l, e := frame.Get(b)
	if e != api.OK {
		return
	}
	again, e := frame.Put(l)
	if e != api.OK {
		t.Errorf("Put(%v) of what is got of %x: %d", short(l), short(b), e)
	}
	wantGet(t, again, l...)
	if !bytes.Equal(again, plainPut(l)) {
		t.Errorf("Put(%v): %x", short(l), short(again))
	}
}

// P7.2, P7.4: bytes of any kind are read as the table says, and what is got may be put.
func TestAnyBytes(t *testing.T) {
	m := newMaker(17)
	for range 40000 {
		b := make([]byte, m.Intn(24))
		m.Read(b)
		for i := range b {
			if m.Intn(3) > 0 {
				b[i] %= 31
			}
		}
		checkPlain(t, b)
		checkGotIsPut(t, b)
	}
}

// P7.2, P7.4: so are those that were put and then had bytes changed, cut out or put in.
func TestChangedBytes(t *testing.T) {
	m := newMaker(27)
	for range 6000 {
		b := plainPut(m.frames(6))
		for range 1 + m.Intn(2) {
			place := m.Intn(len(b) + 1)
			switch m.Intn(4) {
			case 0:
				b = b[:place]
			case 1:
				b = slices.Insert(b, place, byte(m.Intn(256)))
			case 2:
				b = slices.Delete(b, place, min(place+1, len(b)))
			default:
				if place < len(b) {
					b[place] = byte(m.Intn(256))
				}
			}
		}
		checkPlain(t, b)
		checkGotIsPut(t, b)
	}
}

// P7.2: all that two bytes and three zeros behind them, or none, may be.
func TestAllShortBytes(t *testing.T) {
	for n := range 1 << 16 {
		b := []byte{byte(n >> 8), byte(n), 0, 0, 0}
		for _, size := range []int{1, 2, 5} {
			checkPlain(t, b[:size])
		}
	}
}

// P7.4: bytes of the one form that Put has are put as they were.
func TestOneForm(t *testing.T) {
	m := newMaker(37)
	for range 500 {
		b := plainPut(m.frames(8))
		l, e := frame.Get(b)
		if e != api.OK {
			t.Fatalf("Get(%x): %d", short(b), e)
		}
		wantPut(t, l, b)
	}
}

// wholeList: frames with spare room behind each list, and a copy of all of it.
func wholeList() []api.Frame {
	data := append(make([]byte, 0, 64), "some data"...)
	ranges := append(make([]api.Range, 0, 16), api.Range{From: 1, To: 3}, api.Range{From: 7, To: 9})
	l := make([]api.Frame, 0, 16)
	return append(l, api.Frame{Kind: api.FrAck, Limit: 5, Ranges: ranges}, api.Frame{Kind: api.FrCrypto, Offset: 70, Data: data}, api.Frame{Kind: api.FrStream, Stream: 4, Data: data[2:5], Fin: true},
		api.Frame{Kind: api.FrStream, Stream: 8, Offset: 1, Data: data}, api.Frame{Kind: api.FrClose, Code: 1, Data: data[:1]}, api.Frame{Kind: api.FrPadding, Limit: 3})
}

// deepCopy: frames, and the room behind each of their lists.
func deepCopy(l []api.Frame) []api.Frame {
	l = slices.Clone(l[:cap(l)])
	for i := range l {
		l[i].Data = slices.Clone(l[i].Data[:cap(l[i].Data)])
		l[i].Ranges = slices.Clone(l[i].Ranges[:cap(l[i].Ranges)])
	}
	return l
}

// R4: what is handed in stays as it was, its spare room too, with an error or without one.
func TestHandedInStays(t *testing.T) {
	l := wholeList()
	for _, f := range []api.Frame{{Kind: api.FrPing}, {Kind: api.FrPing, Limit: 1}} {
		l := append(l, f)
		before := deepCopy(l)
		b, e := frame.Put(l)
		for range cap(b) - len(b) {
			b = append(b, 0xff)
		}
		if !sameAll(deepCopy(l), before) {
			t.Errorf("Put, with %d, changed what it was handed", e)
		}
		frame.Eliciting(f)
	}
	b, _ := frame.Put(l)
	for _, behind := range []string{"", "\x03", "\x08\x04abc"} {
		room := append(make([]byte, 0, 1000), b...)
		room = append(room, behind...)
		before := slices.Clone(room[:cap(room)])
		frame.Get(room)
		if !bytes.Equal(room[:cap(room)], before) {
			t.Errorf("Get changed what it was handed, with %q behind", behind)
		}
	}
}

// fill writes over all that an answer has, its spare room too.
func fill(l []api.Frame) {
	l = l[:cap(l)]
	for i := range l {
		data, ranges := l[i].Data[:cap(l[i].Data)], l[i].Ranges[:cap(l[i].Ranges)]
		for j := range data {
			data[j] ^= 0xff
		}
		for j := range ranges {
			ranges[j] = api.Range{From: 99, To: 98}
		}
		l[i] = api.Frame{}
	}
}

// R4: an answer is memory of its own, and so is each list in it.
func TestAnswersAreNewMemory(t *testing.T) {
	l := wholeList()
	want := plainPut(l)
	first, _ := frame.Put(l)
	second, _ := frame.Put(l)
	fill(l)
	for i := range first[:cap(first)] {
		first[:cap(first)][i] = 0xee
	}
	if !bytes.Equal(second, want) {
		t.Errorf("Put: %x; want %x", second, want)
	}
	b := append(bytes.Clone(want), "\x01\x08\x04up to the end"...)
	frames, _ := plainGet(bytes.Clone(b))
	one, _ := frame.Get(b)
	two, _ := frame.Get(b)
	fill(one)
	if !sameAll(two, frames) {
		t.Errorf("Get: %v; want %v", two, frames)
	}
	for i := range b {
		b[i] ^= 0xff
	}
	if !sameAll(two, frames) {
		t.Errorf("Get keeps what it was handed: %v; want %v", two, frames)
	}
	for i := range two { // one frame's lists, written over, leave those of the others
		fill(two[i : i+1 : i+1])
		if !sameAll(two[i+1:], frames[i+1:]) {
			t.Errorf("the lists of frame %d are those of others", i)
		}
	}
}

// R2, R4: a field that a row doesn't name is zero in what is got, and there is no list beside an error.
func TestFieldsOfAnswers(t *testing.T) {
	m := newMaker(47)
	for range 300 {
		l, e := frame.Get(plainPut(m.frames(8)))
		if e != api.OK {
			t.Fatal(e)
		}
		for _, f := range l {
			for field, set := range map[string]bool{"S": f.Stream != 0, "O": f.Offset != 0, "L": f.Limit != 0, "C": f.Code != 0, "F": f.Fin, "D": len(f.Data) > 0, "R": len(f.Ranges) > 0} {
				if set && !strings.Contains(namedFields[f.Kind], field) {
					t.Errorf("%v: has %s", f, field)
				}
			}
		}
	}
}

// R5: what is answered hangs on what is handed in alone, whoever asks at the same time, and after a refusal too.
func TestHangsOnArgumentsAlone(t *testing.T) {
	var work sync.WaitGroup
	for worker := range 8 {
		work.Go(func() {
			m := newMaker(int64(worker % 2))
			for range 150 {
				l := m.frames(6)
				b := plainPut(l)
				wantBoth(t, b, l...)
				wantNoGet(t, append(bytes.Clone(b), 3), api.ErrForm)
				wantNoPut(t, append(slices.Clone(l), api.Frame{}), api.ErrArg)
				wantBoth(t, b, l...)
			}
		})
	}
	work.Wait()
}
