package stream_test

import (
	"math"
	"testing"

	"mailcoach/api"
)

// P16.3, P16.4: bytes that are lost in one run, which is longer than n, go ahead of fresh ones.
func TestLostInOneRun(t *testing.T) {
	s := of(t, "abcdefgh", true)
	f := takes(t, s, 5, 9, 0, "abcde", false)
	loses(t, s, f)
	takes(t, s, 2, 9, 0, "ab", false)
	takes(t, s, 1, 9, 2, "c", false)
	takes(t, s, 9, 9, 3, "de", false) // not beyond its run, though n and fresh have room
	takes(t, s, 9, 9, 5, "fgh", true)
	none(t, s, 9, 9)
}

// P16.3, P16.4: in two runs: the first one of them goes first, alone, in whichever order they were lost.
func TestLostInTwoRuns(t *testing.T) {
	for turned := range 2 {
		s := of(t, "abcdefgh", true)
		a := takes(t, s, 2, 9, 0, "ab", false)
		takes(t, s, 1, 9, 2, "c", false)
		b := takes(t, s, 3, 9, 3, "def", false)
		if turned == 0 {
			loses(t, s, a, b)
		} else {
			loses(t, s, b, a)
		}
		takes(t, s, 9, 9, 0, "ab", false)
		takes(t, s, 2, 9, 3, "de", false)
		loses(t, s, a)
		takes(t, s, 9, 9, 0, "ab", false)
		takes(t, s, 9, 9, 5, "f", false)
		takes(t, s, 9, 9, 6, "gh", true)
	}
}

// P16.3, P16.4: runs that touch are one.
func TestLostRunsThatTouch(t *testing.T) {
	for turned := range 2 {
		s := of(t, "abcdefgh", true)
		a := takes(t, s, 2, 9, 0, "ab", false)
		b := takes(t, s, 3, 9, 2, "cde", false)
		c := takes(t, s, 9, 9, 5, "fgh", true)
		if turned == 0 {
			loses(t, s, a, b)
		} else {
			loses(t, s, b, a)
		}
		takes(t, s, 9, 9, 0, "abcde", false)
		none(t, s, 9, 9)
		loses(t, s, a, c)
		loses(t, s, b)
		takes(t, s, 9, 9, 0, "abcdefgh", true)
		none(t, s, 9, 9)
	}
}

// P16.4: bytes that are lost twice are lost once.
func TestLostTwice(t *testing.T) {
	s := of(t, "abcdef", true)
	f := takes(t, s, 4, 9, 0, "abcd", false)
	loses(t, s, f, f, fr(1, "bc", false))
	takes(t, s, 9, 0, 0, "abcd", false)
	none(t, s, 9, 0)
	loses(t, s, f) // and again, once they were taken again
	takes(t, s, 3, 0, 0, "abc", false)
	loses(t, s, fr(1, "b", false))
	takes(t, s, 9, 0, 1, "b", false)
	takes(t, s, 9, 0, 3, "d", false)
	none(t, s, 9, 0)
}

// P16.3: the end goes with the last bytes, fresh ones and lost ones.
func TestEndWithBytes(t *testing.T) {
	s := of(t, "abc", true)
	takes(t, s, 2, 9, 0, "ab", false)
	f := takes(t, s, 1, 9, 2, "c", true)
	none(t, s, 9, 9)
	loses(t, s, f)
	none(t, s, 0, 9) // a byte is lost too
	f = takes(t, s, 9, 0, 2, "c", true)
	none(t, s, 9, 9)
	none(t, s, 0, 9)
	loses(t, s, f, fr(0, "ab", false))
	takes(t, s, 2, 0, 0, "ab", false)
	takes(t, s, 2, 0, 2, "c", true)
	none(t, s, 9, 9)
}

// P16.3: an end that was written behind bytes that were sent goes with the last of them, if they are lost, else alone.
func TestEndWrittenLater(t *testing.T) {
	s := of(t, "abc", false)
	f := takes(t, s, 9, 9, 0, "abc", false)
	loses(t, s, f)
	write(t, s, "", true, api.OK)
	takes(t, s, 2, 9, 0, "ab", false)
	notIts(t, s, fr(2, "c", true)) // the end was not sent yet
	f = takes(t, s, 9, 9, 2, "c", true)
	none(t, s, 9, 9)
	none(t, s, 0, 9)
	got(t, s, f)
	loses(t, s, fr(0, "ab", false))
	got(t, s, takes(t, s, 9, 9, 0, "ab", false))
	stands(t, s, 3, true)

	s = of(t, "abc", false)
	f = takes(t, s, 9, 9, 0, "abc", false)
	write(t, s, "", true, api.OK)
	takes(t, s, 9, 9, 3, "", true)
	loses(t, s, f)
	takes(t, s, 9, 9, 0, "abc", true) // it reaches to the end, though that is not lost
	none(t, s, 9, 9)
}

// P16.3: no bytes at the end are told only where no byte is lost, and all were sent.
func TestEndAloneWaits(t *testing.T) {
	s := of(t, "ab", false)
	a := takes(t, s, 1, 9, 0, "a", false)
	takes(t, s, 1, 9, 1, "b", false)
	write(t, s, "", true, api.OK)
	loses(t, s, a)
	none(t, s, 0, 9)
	takes(t, s, 9, 9, 0, "a", false)
	takes(t, s, 0, 9, 2, "", true)
	none(t, s, 0, 9)
	loses(t, s, a, fr(2, "", true))
	none(t, s, 0, 9)
	takes(t, s, 9, 9, 0, "a", false)
	takes(t, s, 0, 9, 2, "", true)
	none(t, s, 0, 9)

	s = made(t, 2)
	write(t, s, "abc", true, api.OK)
	takes(t, s, 9, 9, 0, "ab", false)
	none(t, s, 9, 9)
	none(t, s, 0, 9)
	raise(t, s, 3, api.OK)
	none(t, s, 0, 9)
	none(t, s, 9, 0)
	takes(t, s, 9, 9, 2, "c", true)
}

// P16.3, P16.4: the end that is lost alone, and that is lost alone as its bytes came in.
func TestEndLostAlone(t *testing.T) {
	s := of(t, "abc", true)
	f := takes(t, s, 9, 9, 0, "abc", true)
	end := fr(3, "", true)
	loses(t, s, end)
	end = takes(t, s, 9, 9, 3, "", true)
	none(t, s, 9, 9)
	loses(t, s, f)
	got(t, s, fr(1, "bc", false))
	takes(t, s, 9, 9, 0, "a", false)
	takes(t, s, 0, 0, 3, "", true)
	none(t, s, 0, 0)
	loses(t, s, fr(2, "c", true)) // c came in
	takes(t, s, 1, 0, 3, "", true)
	got(t, s, end)
	loses(t, s, end, fr(2, "c", true), fr(0, "", false))
	none(t, s, 9, 9)
	got(t, s, fr(0, "a", false))
	stands(t, s, 3, true)
}

// P16.4: of a frame that is lost, what came in is not: bytes, the end.
func TestLostAfterItCame(t *testing.T) {
	s := of(t, "abcdef", true)
	f := takes(t, s, 9, 9, 0, "abcdef", true)
	got(t, s, fr(1, "b", false), fr(3, "d", false))
	loses(t, s, f)
	takes(t, s, 9, 9, 0, "a", false)
	takes(t, s, 9, 9, 2, "c", false)
	takes(t, s, 9, 9, 4, "ef", true)
	none(t, s, 9, 9)
	got(t, s, fr(5, "f", true))
	loses(t, s, f)
	takes(t, s, 9, 9, 0, "a", false)
	takes(t, s, 9, 9, 2, "c", false)
	takes(t, s, 9, 9, 4, "e", false)
	none(t, s, 9, 9)
	none(t, s, 0, 9)
	got(t, s, f)
	stands(t, s, 6, true)
	loses(t, s, f)
	none(t, s, 9, 9)
	stands(t, s, 6, true)
}

// P16.4: what came in after it was lost is not taken again; also where a part of it was taken already, and is lost then.
func TestCameAfterItWasLost(t *testing.T) {
	s := of(t, "abcdef", true)
	f := takes(t, s, 9, 9, 0, "abcdef", true)
	loses(t, s, f)
	got(t, s, fr(2, "cd", false))
	a := takes(t, s, 9, 9, 0, "ab", false)
	got(t, s, f)
	none(t, s, 9, 9)
	none(t, s, 0, 9)
	stands(t, s, 6, true)
	loses(t, s, a)
	none(t, s, 9, 9)

	s = of(t, "abc", true)
	f = takes(t, s, 9, 9, 0, "abc", true)
	loses(t, s, f)
	got(t, s, fr(3, "", true)) // the end alone: the bytes are lost still
	none(t, s, 0, 9)
	takes(t, s, 9, 9, 0, "abc", true)
	none(t, s, 0, 9)
	stands(t, s, 3, false)
}

// P16.4: a frame that came in twice, and frames that lie across one another.
func TestGotTwice(t *testing.T) {
	s := of(t, "abcdef", true)
	a := takes(t, s, 3, 9, 0, "abc", false)
	b := takes(t, s, 9, 9, 3, "def", true)
	got(t, s, a, a)
	stands(t, s, 6, false)
	got(t, s, fr(1, "bcd", false), fr(2, "cdef", false), b, b)
	stands(t, s, 6, true)
	got(t, s, a, b)
	stands(t, s, 6, true)
}

// P16.4: a frame that is made of parts of others that were sent.
func TestMadeOfParts(t *testing.T) {
	s := of(t, "abcdef", true)
	takes(t, s, 2, 9, 0, "ab", false)
	takes(t, s, 2, 9, 2, "cd", false)
	notIts(t, s, fr(1, "bcde", false))
	takes(t, s, 2, 9, 4, "ef", true)
	loses(t, s, fr(1, "bcd", false))
	takes(t, s, 9, 9, 1, "bcd", false)
	got(t, s, fr(1, "bcde", false))
	stands(t, s, 6, false)
	loses(t, s, fr(0, "abcdef", true))
	takes(t, s, 9, 9, 0, "a", false)
	takes(t, s, 9, 9, 5, "f", true)
	got(t, s, fr(0, "a", false), fr(5, "f", false))
	stands(t, s, 6, false)
	got(t, s, fr(6, "", true))
	stands(t, s, 6, true)
}

// P16.4: a frame of no bytes is its up to what was sent, and changes nothing without Fin.
func TestNoBytes(t *testing.T) {
	s := of(t, "abcdef", true)
	f := takes(t, s, 4, 9, 0, "abcd", false)
	loses(t, s, f)
	for at := range uint64(5) {
		got(t, s, fr(at, "", false))
		loses(t, s, fr(at, "", false))
		notIts(t, s, fr(at, "", true))
	}
	for _, at := range []uint64{5, 6, 7, most, 1 << 63, math.MaxUint64} {
		notIts(t, s, fr(at, "", false))
		notIts(t, s, fr(at, "", true))
	}
	takes(t, s, 9, 9, 0, "abcd", false) // one run still
	takes(t, s, 9, 9, 4, "ef", true)
	got(t, s, fr(6, "", false))
	notIts(t, s, fr(7, "", false))
	notIts(t, s, fr(7, "", true))
	notIts(t, s, fr(5, "", true))
	none(t, s, 9, 9)
	stands(t, s, 6, false)
}

// P16.4, R2: frames that are not its: each is refused, and changes nothing.
func TestNotIts(t *testing.T) {
	for i, wrong := range []api.Frame{
		{},
		{Kind: api.FrCrypto, Stream: 4, Data: []byte("ab")},
		{Kind: api.FrNone, Stream: 4, Data: []byte("ab")},
		{Kind: api.FrDone, Stream: 4},
		{Kind: 255, Stream: 4, Data: []byte("ab")},
		{Kind: api.FrStream, Stream: 0, Data: []byte("ab")},
		{Kind: api.FrStream, Stream: 5, Data: []byte("ab")},
		{Kind: api.FrStream, Stream: 4 + 1<<32, Data: []byte("ab")},
		{Kind: api.FrStream, Stream: 4, Data: []byte("ab"), Limit: 1},
		{Kind: api.FrStream, Stream: 4, Data: []byte("ab"), Code: 1},
		{Kind: api.FrStream, Stream: 4, Data: []byte("ab"), Limit: math.MaxUint64, Code: 1 << 63},
		{Kind: api.FrStream, Stream: 4, Data: []byte("ab"), Ranges: []api.Range{{}}},
		{Kind: api.FrStream, Stream: 4, Data: []byte("ab"), Ranges: []api.Range{{From: 0, To: 1}}},
		fr(5, "f", false), fr(6, "", false), fr(6, "", true), fr(7, "", true),
		fr(0, "abcdef", false), fr(0, "abcdef", true), fr(4, "ef", false), fr(4, "ef", true), fr(5, "f", true),
		fr(0, "b", false), fr(0, "abcdx", false), fr(0, "abcdE", false), fr(1, "ab", false), fr(3, "dx", false),
		fr(0, "ab", true), fr(0, "abcde", true), fr(5, "", true),
		fr(0, "abcdefg", false), fr(0, "abcdefg", true),
		fr(1<<32, "ab", false), fr(1<<62, "", false), fr(1<<63, "", false), fr(1<<63, "ab", false),
		fr(math.MaxUint64, "", false), fr(math.MaxUint64, "a", false), fr(math.MaxUint64, "ab", false), fr(math.MaxUint64-1, "abc", true),
	} {
		s := of(t, "abcdef", true)
		takes(t, s, 5, 9, 0, "abcde", false)
		loses(t, s, fr(1, "b", false), fr(3, "d", false))
		got(t, s, fr(2, "c", false))
		notIts(t, s, wrong)
		stands(t, s, 5, false)
		takes(t, s, 9, 9, 1, "b", false)
		takes(t, s, 9, 9, 3, "d", false)
		takes(t, s, 9, 9, 5, "f", true)
		none(t, s, 9, 9)
		got(t, s, fr(0, "ab", false), fr(3, "de", false))
		stands(t, s, 6, false)
		got(t, s, fr(5, "f", true))
		if !s.Done() {
			t.Errorf("%d: not done", i)
		}
	}
}

// P16.4: Fin only where the end was sent, and the Data reach to it.
func TestFinNotIts(t *testing.T) {
	s := of(t, "abc", false)
	takes(t, s, 9, 9, 0, "abc", false)
	notIts(t, s, fr(0, "abc", true)) // no end was written
	notIts(t, s, fr(3, "", true))
	write(t, s, "", true, api.OK)
	notIts(t, s, fr(0, "abc", true)) // nor sent
	notIts(t, s, fr(3, "", true))
	stands(t, s, 3, false)
	takes(t, s, 9, 9, 3, "", true)
	notIts(t, s, fr(0, "ab", true))
	notIts(t, s, fr(2, "", true))
	notIts(t, s, fr(0, "", true))
	notIts(t, s, fr(3, "d", true))
	notIts(t, s, fr(4, "", true))
	got(t, s, fr(3, "", true))
	stands(t, s, 3, false)
	got(t, s, fr(0, "abc", true))
	stands(t, s, 3, true)
}

// P16.4: bytes that are alike are not one another: what is told is at its place.
func TestAlike(t *testing.T) {
	s := of(t, "aaaaaa", true)
	takes(t, s, 4, 9, 0, "aaaa", false)
	loses(t, s, fr(1, "a", false), fr(3, "a", false))
	takes(t, s, 9, 9, 1, "a", false)
	takes(t, s, 9, 9, 3, "a", false)
	takes(t, s, 9, 9, 4, "aa", true)
	notIts(t, s, fr(5, "aa", false))
	got(t, s, fr(0, "aaaaa", false))
	stands(t, s, 6, false)
	got(t, s, fr(5, "a", true))
	stands(t, s, 6, true)
}

// R4: bytes that are written stay as they were, their spare room too, and are not kept.
func TestWrittenIsNotKept(t *testing.T) {
	room := []byte("abcdefgh")
	s := made(t, most)
	if s.Write(room[:3], false) != api.OK || s.Write(room[1:2], true) != api.OK || string(room) != "abcdefgh" {
		t.Fatalf("the bytes are %q now", room)
	}
	copy(room, "XXXXXXXX")
	f := takes(t, s, 9, 9, 0, "abcb", true)
	loses(t, s, f)
	takes(t, s, 9, 9, 0, "abcb", true)
}

// R4: a frame that was told is memory of its own, spare room too: filled with other bytes it changes neither another frame nor the sender.
func TestTakenIsNew(t *testing.T) {
	s := of(t, "abcdef", false)
	a, _ := s.Take(3, 9)
	b, _ := s.Take(3, 9)
	for _, f := range []api.Frame{a, b} {
		data := f.Data[:cap(f.Data)]
		for i := range data {
			data[i] = 'X'
		}
	}
	if string(a.Data) != "XXX" || string(b.Data) != "XXX" {
		t.Errorf("%q, %q", a.Data, b.Data)
	}
	notIts(t, s, a)
	loses(t, s, fr(0, "abcdef", false))
	c := takes(t, s, 4, 9, 0, "abcd", false)
	_ = append(c.Data, "YYYY"...)
	takes(t, s, 9, 9, 4, "ef", false)
	write(t, s, "ghi", true, api.OK)
	takes(t, s, 9, 9, 6, "ghi", true)
	got(t, s, fr(0, "abcdefghi", true))
	stands(t, s, 9, true)
}

// R4: a frame that is handed in stays as it was, its spare room too, and is not kept.
func TestHeardIsNotKept(t *testing.T) {
	s := of(t, "abcdef", true)
	takes(t, s, 9, 9, 0, "abcdef", true)
	room := []byte("abcdef")
	f := fr(0, "", false)
	f.Data = room[:2]
	f.Ranges = make([]api.Range, 0, 2) // none, as nil is
	loses(t, s, f)
	got(t, s, f)
	loses(t, s, f)
	if string(room) != "abcdef" || f.Ranges[:2][0] != (api.Range{}) {
		t.Errorf("%q, %v", room, f.Ranges[:2])
	}
	f.Data = room[2:4]
	loses(t, s, api.Frame{Kind: api.FrStream, Stream: 4, Offset: 2, Data: f.Data})
	copy(room, "XXXXXX")
	takes(t, s, 9, 9, 2, "cd", false)
	none(t, s, 9, 9)
}

// P16.3, P16.4: very many runs.
func TestManyRuns(t *testing.T) {
	const count = 1 << 15
	b := make([]byte, 2*count)
	for i := range b {
		b[i] = byte(i * 31 >> 4)
	}
	s := of(t, string(b), true)
	for at := range uint64(len(b)) {
		takes(t, s, 1, 1, at, string(b[at:at+1]), at == uint64(len(b)-1))
	}
	odd := func(i uint64) api.Frame { return fr(2*i+1, string(b[2*i+1:2*i+2]), 2*i+2 == uint64(len(b))) }
	for i := range uint64(count) { // from both sides
		j := i / 2
		if i%2 == 1 {
			j = count - 1 - j
		}
		loses(t, s, odd(j))
		got(t, s, fr(2*j, string(b[2*j:2*j+1]), false))
	}
	for i := range uint64(count) {
		f := takes(t, s, 9, 0, 2*i+1, string(b[2*i+1:2*i+2]), i == count-1)
		if !same(f, odd(i)) {
			t.Fatalf("%v", f)
		}
	}
	none(t, s, 9, 9)
	for i := range uint64(count) {
		stands(t, s, 2*count, false)
		got(t, s, odd(count-1-i))
	}
	stands(t, s, 2*count, true)
}
