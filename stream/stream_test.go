package stream_test

import (
	"bytes"
	"math"
	"testing"

	"mailcoach/api"
	"mailcoach/stream"
)

const most = api.MaxNumber

// made: a sender of the stream 4, of nothing.
func made(t *testing.T, credit uint64) *stream.Sender {
	t.Helper()
	s, e := stream.NewSender(4, credit)
	if s == nil || e != api.OK {
		t.Fatalf("NewSender(4, %d): %v, %d", credit, s, e)
	}
	return s
}

// of: a sender with bytes, perhaps their end, and all the credit there is.
func of(t *testing.T, b string, last bool) *stream.Sender {
	t.Helper()
	s := made(t, most)
	write(t, s, b, last, api.OK)
	return s
}

// write: bytes, which are answered so.
func write(t *testing.T, s *stream.Sender, b string, last bool, want api.Errno) {
	t.Helper()
	if e := s.Write([]byte(b), last); e != want {
		t.Errorf("Write(%d bytes, %v): %d; want %d", len(b), last, e, want)
	}
}

// fr: a frame of the stream 4.
func fr(at uint64, data string, fin bool) api.Frame {
	return api.Frame{Kind: api.FrStream, Stream: 4, Offset: at, Data: []byte(data), Fin: fin}
}

// same: are two frames alike in everything?
func same(a, b api.Frame) bool {
	return a.Kind == b.Kind && a.Stream == b.Stream && a.Offset == b.Offset && a.Limit == b.Limit && a.Code == b.Code &&
		a.Fin == b.Fin && bytes.Equal(a.Data, b.Data) && len(a.Ranges) == 0 && len(b.Ranges) == 0
}

// takes: the next frame, which is this one.
func takes(t *testing.T, s *stream.Sender, n int, fresh, at uint64, data string, fin bool) api.Frame {
	t.Helper()
	f, ok := s.Take(n, fresh)
	if !ok || !same(f, fr(at, data, fin)) {
		t.Errorf("Take(%d, %d): %v, %v; want %d %q, %v", n, fresh, f, ok, at, data, fin)
	}
	return f
}

// none: there is no next frame, with nothing beside it.
func none(t *testing.T, s *stream.Sender, n int, fresh uint64) {
	t.Helper()
	if f, ok := s.Take(n, fresh); ok || !same(f, api.Frame{}) {
		t.Errorf("Take(%d, %d): %v, %v; want none", n, fresh, f, ok)
	}
}

// got: frames came in there.
func got(t *testing.T, s *stream.Sender, frames ...api.Frame) {
	t.Helper()
	for _, f := range frames {
		if e := s.Got(f); e != api.OK {
			t.Errorf("Got(%v): %d", f, e)
		}
	}
}

// loses: frames did not come in there.
func loses(t *testing.T, s *stream.Sender, frames ...api.Frame) {
	t.Helper()
	for _, f := range frames {
		if e := s.Lost(f); e != api.OK {
			t.Errorf("Lost(%v): %d", f, e)
		}
	}
}

// notIts: a frame is refused, whatever became of it.
func notIts(t *testing.T, s *stream.Sender, f api.Frame) {
	t.Helper()
	if e := s.Got(f); e != api.ErrArg {
		t.Errorf("Got(%v): %d", f, e)
	}
	if e := s.Lost(f); e != api.ErrArg {
		t.Errorf("Lost(%v): %d", f, e)
	}
}

// raise: to so much credit, which is answered so.
func raise(t *testing.T, s *stream.Sender, credit uint64, want api.Errno) {
	t.Helper()
	if e := s.Raise(credit); e != want {
		t.Errorf("Raise(%d): %d; want %d", credit, e, want)
	}
}

// resets: a sender, which is answered so.
func resets(t *testing.T, s *stream.Sender, want uint64, wantE api.Errno) {
	t.Helper()
	if n, e := s.Reset(); n != want || e != wantE {
		t.Errorf("Reset: %d, %d; want %d, %d", n, e, want, wantE)
	}
}

// stands: how many bytes were sent, and whether all came in.
func stands(t *testing.T, s *stream.Sender, fresh uint64, done bool) {
	t.Helper()
	if s.Fresh() != fresh || s.Done() != done {
		t.Errorf("fresh %d, done %v; want %d, %v", s.Fresh(), s.Done(), fresh, done)
	}
}

// P16.1 to P16.6: the chapter's examples.
func TestExamples(t *testing.T) {
	s := made(t, 5)
	write(t, s, "abcdefgh", true, api.OK)
	a := takes(t, s, 3, 9, 0, "abc", false)
	b := takes(t, s, 9, 9, 3, "de", false)
	none(t, s, 9, 9)
	loses(t, s, a)
	c := takes(t, s, 2, 0, 0, "ab", false)
	d := takes(t, s, 9, 0, 2, "c", false)
	raise(t, s, 20, api.OK)
	e := takes(t, s, 9, 9, 5, "fgh", true)
	stands(t, s, 8, false)
	got(t, s, a, b, c, d, e)
	stands(t, s, 8, true)
	notIts(t, s, fr(9, "x", false))
}

// P16.1: numbers and credits of 0 and MaxNumber, and above.
func TestNewSender(t *testing.T) {
	for _, id := range []uint64{0, 1, most - 1, most} {
		for _, credit := range []uint64{0, 1, most - 1, most} {
			s, e := stream.NewSender(id, credit)
			if s == nil || e != api.OK {
				t.Fatalf("NewSender(%d, %d): %v, %d", id, credit, s, e)
			}
			none(t, s, math.MaxInt, math.MaxUint64)
			write(t, s, "abc", true, api.OK)
			f, ok := s.Take(9, 9)
			want := api.Frame{Kind: api.FrStream, Stream: id, Data: []byte("abc")[:min(credit, 3)], Fin: credit >= 3}
			if credit == 0 && ok || credit > 0 && (!ok || !same(f, want)) {
				t.Errorf("NewSender(%d, %d): %v, %v", id, credit, f, ok)
			}
		}
	}
	for _, wrong := range []uint64{most + 1, 1 << 63, math.MaxUint64} {
		for _, x := range [][2]uint64{{wrong, 0}, {0, wrong}, {wrong, most}, {most, wrong}, {wrong, wrong}} {
			if s, e := stream.NewSender(x[0], x[1]); s != nil || e != api.ErrArg {
				t.Errorf("NewSender(%d, %d): %v, %d", x[0], x[1], s, e)
			}
		}
	}
}

// P16.1, P16.6: a sender of nothing has nothing to tell, and is not done.
func TestNothing(t *testing.T) {
	for _, credit := range []uint64{0, 1, most} {
		s := made(t, credit)
		for _, n := range []int{0, 1, 9, math.MaxInt, -1, math.MinInt} {
			none(t, s, n, 0)
			none(t, s, n, math.MaxUint64)
		}
		stands(t, s, 0, false)
		got(t, s, fr(0, "", false)) // no bytes of nothing are its
		loses(t, s, fr(0, "", false))
		notIts(t, s, fr(0, "", true))
		notIts(t, s, fr(1, "", false))
		notIts(t, s, fr(0, "a", false))
		none(t, s, 9, 9)
		stands(t, s, 0, false)
		resets(t, s, 0, api.OK)
	}
}

// P16.1, R5: each NewSender makes another one.
func TestNewTwice(t *testing.T) {
	a, b := made(t, 9), made(t, 9)
	write(t, a, "abc", true, api.OK)
	f := takes(t, a, 9, 9, 0, "abc", true)
	none(t, b, 9, 9)
	stands(t, b, 0, false)
	notIts(t, b, f)
	got(t, a, f)
	write(t, b, "xyz", true, api.OK)
	takes(t, b, 9, 9, 0, "xyz", true)
	stands(t, b, 3, false)
	stands(t, a, 3, true)
}

// P16.2: bytes stand behind the others; no bytes, with and without the end.
func TestWrite(t *testing.T) {
	s := made(t, most)
	write(t, s, "", false, api.OK)
	none(t, s, 9, 9)
	write(t, s, "ab", false, api.OK)
	write(t, s, "", false, api.OK)
	if s.Write(nil, false) != api.OK {
		t.Error("nil is as good as none")
	}
	write(t, s, "cd", false, api.OK)
	takes(t, s, 3, 9, 0, "abc", false)
	write(t, s, "e", false, api.OK)
	takes(t, s, 9, 9, 3, "de", false)
	none(t, s, 9, 9)
	write(t, s, "fg", true, api.OK)
	takes(t, s, 9, 9, 5, "fg", true)
	stands(t, s, 7, false)
}

// P16.2: nothing is written behind the end, or behind a reset; ErrState counts ahead of ErrLimit.
func TestWriteBehindTheEnd(t *testing.T) {
	tooMany := string(make([]byte, api.MaxBytes+1))
	refuses := func(s *stream.Sender) {
		t.Helper()
		for _, b := range []string{"", "x", tooMany} {
			write(t, s, b, false, api.ErrState)
			write(t, s, b, true, api.ErrState)
		}
	}
	s := of(t, "abc", true)
	refuses(s)
	f := takes(t, s, 9, 9, 0, "abc", true)
	refuses(s)
	got(t, s, f)
	refuses(s)
	none(t, s, 9, 9)
	stands(t, s, 3, true)
	s = of(t, "", true)
	refuses(s)
	takes(t, s, 9, 9, 0, "", true)
	refuses(s)
	s = of(t, "abc", false)
	takes(t, s, 2, 9, 0, "ab", false)
	resets(t, s, 2, api.OK)
	refuses(s)
	stands(t, s, 2, false)
}

// P16.2: just MaxBytes bytes, at once and in parts; one more is refused, and changes nothing.
func TestMaxBytes(t *testing.T) {
	whole := make([]byte, api.MaxBytes)
	for i := range whole {
		whole[i] = byte(i * 7 >> 3)
	}
	for _, first := range []int{0, 1, 1000, api.MaxBytes - 1, api.MaxBytes} {
		s := made(t, most)
		write(t, s, string(whole[:first]), false, api.OK)
		write(t, s, string(whole[first:])+"x", false, api.ErrLimit)
		write(t, s, string(whole[first:])+"x", true, api.ErrLimit)
		write(t, s, string(whole[first:]), false, api.OK)
		write(t, s, "x", false, api.ErrLimit)
		write(t, s, "x", true, api.ErrLimit)
		write(t, s, "", false, api.OK)
		write(t, s, "", true, api.OK)
		write(t, s, "x", true, api.ErrState)
		f := takes(t, s, math.MaxInt, math.MaxUint64, 0, string(whole), true)
		none(t, s, math.MaxInt, math.MaxUint64)
		loses(t, s, f)
		f = takes(t, s, math.MaxInt, 0, 0, string(whole), true)
		stands(t, s, api.MaxBytes, false)
		got(t, s, f)
		stands(t, s, api.MaxBytes, true)
	}
}

// P16.3: an n of 0 and 1, and below 0.
func TestTakeFew(t *testing.T) {
	s := of(t, "abc", true)
	for _, n := range []int{0, -1, -9, math.MinInt} {
		none(t, s, n, 9)
	}
	a := takes(t, s, 1, 9, 0, "a", false)
	none(t, s, 0, 9)
	b := takes(t, s, 1, 9, 1, "b", false)
	loses(t, s, a, b)
	for _, n := range []int{0, -1, math.MinInt} {
		none(t, s, n, 9)
	}
	takes(t, s, 1, 9, 0, "a", false)
	takes(t, s, 1, 9, 1, "b", false)
	takes(t, s, 1, 9, 2, "c", true)
	none(t, s, 1, 9)
	none(t, s, 0, 9)
	s = of(t, "", true)
	for _, n := range []int{-1, -9, math.MinInt} {
		none(t, s, n, 9)
	}
	takes(t, s, 0, 0, 0, "", true)
}

// P16.3: of bytes that are new at most fresh; of those that are lost, as many as n.
func TestTakeFresh(t *testing.T) {
	s := of(t, "abcdef", true)
	none(t, s, 9, 0)
	stands(t, s, 0, false)
	a := takes(t, s, 9, 1, 0, "a", false)
	b := takes(t, s, 9, 3, 1, "bcd", false)
	stands(t, s, 4, false)
	none(t, s, 9, 0)
	loses(t, s, a, b)
	takes(t, s, 9, 0, 0, "abcd", false)
	none(t, s, 9, 0)
	stands(t, s, 4, false)
	takes(t, s, 9, math.MaxUint64, 4, "ef", true)
	stands(t, s, 6, false)
}

// P16.3, P16.5: not beyond the credit; one that is just reached, one that is raised to less.
func TestCredit(t *testing.T) {
	s := made(t, 0)
	write(t, s, "abcdef", true, api.OK)
	none(t, s, 9, 9)
	raise(t, s, 0, api.OK)
	none(t, s, 9, 9)
	raise(t, s, 1, api.OK)
	takes(t, s, 9, 9, 0, "a", false)
	none(t, s, 9, 9)
	raise(t, s, 4, api.OK)
	raise(t, s, 2, api.OK)
	raise(t, s, 0, api.OK)
	takes(t, s, 2, 9, 1, "bc", false)
	takes(t, s, 9, 9, 3, "d", false)
	raise(t, s, 4, api.OK)
	none(t, s, 9, 9)
	for _, wrong := range []uint64{most + 1, 1 << 63, math.MaxUint64} {
		raise(t, s, wrong, api.ErrArg)
	}
	none(t, s, 9, 9)
	raise(t, s, 6, api.OK)
	f := takes(t, s, 9, 9, 4, "ef", true) // the end needs no credit
	raise(t, s, most, api.OK)
	none(t, s, 9, 9)
	loses(t, s, f)
	raise(t, s, 1, api.OK)
	takes(t, s, 9, 9, 4, "ef", true)
	stands(t, s, 6, false)
}

// P16.3: the end alone needs neither credit nor fresh ones.
func TestEndWithoutCredit(t *testing.T) {
	s := made(t, 0)
	write(t, s, "", true, api.OK)
	f := takes(t, s, 0, 0, 0, "", true)
	got(t, s, f)
	stands(t, s, 0, true)
	s = made(t, 2)
	write(t, s, "ab", false, api.OK)
	takes(t, s, 9, 9, 0, "ab", false)
	write(t, s, "", true, api.OK)
	takes(t, s, 9, 0, 2, "", true)
}

// P16.5: Reset, of a sender of which some, or all, was sent; it is reset once, and not behind the end of all.
func TestReset(t *testing.T) {
	for sent := range uint64(4) {
		s := of(t, "abc", true)
		f, _ := s.Take(9, sent)
		resets(t, s, sent, api.OK)
		stands(t, s, sent, false)
		resets(t, s, 0, api.ErrState)
		for n := range 3 {
			none(t, s, n, 9)
		}
		if sent > 0 {
			got(t, s, f)
			loses(t, s, f)
		}
		none(t, s, 9, 9)
		stands(t, s, sent, false)
		raise(t, s, most, api.OK)
		raise(t, s, most+1, api.ErrArg)
		resets(t, s, 0, api.ErrState)
	}
	s := of(t, "abc", true)
	f := takes(t, s, 9, 9, 0, "abc", true)
	got(t, s, f)
	resets(t, s, 0, api.ErrState)
	stands(t, s, 3, true) // what was refused changed nothing
	none(t, s, 9, 9)
	s = of(t, "", true)
	got(t, s, takes(t, s, 9, 9, 0, "", true))
	resets(t, s, 0, api.ErrState)
	stands(t, s, 0, true)
}

// P16.4, P16.6: behind a reset nothing comes in and nothing is lost, so it does not get done; a frame that is not its is refused still.
func TestHeardBehindReset(t *testing.T) {
	s := of(t, "abc", true)
	a := takes(t, s, 2, 9, 0, "ab", false)
	b := takes(t, s, 2, 9, 2, "c", true)
	loses(t, s, a)
	got(t, s, b)
	resets(t, s, 3, api.OK)
	none(t, s, 9, 9)
	got(t, s, a, b)
	loses(t, s, a, b)
	stands(t, s, 3, false)
	none(t, s, 9, 9)
	none(t, s, 0, 9)
	notIts(t, s, fr(0, "x", false))
	notIts(t, s, api.Frame{})
}

// P16.6: how many bytes were sent, each once; the end is none.
func TestFresh(t *testing.T) {
	s := of(t, "abcd", false)
	f := takes(t, s, 3, 9, 0, "abc", false)
	stands(t, s, 3, false)
	loses(t, s, f)
	stands(t, s, 3, false)
	f = takes(t, s, 9, 9, 0, "abc", false)
	stands(t, s, 3, false)
	got(t, s, f)
	stands(t, s, 3, false)
	takes(t, s, 9, 9, 3, "d", false)
	stands(t, s, 4, false)
	write(t, s, "", true, api.OK)
	stands(t, s, 4, false)
	takes(t, s, 9, 9, 4, "", true)
	stands(t, s, 4, false)
}

// P16.6: done are the end and all bytes, whichever came in first.
func TestDone(t *testing.T) {
	for last := range 4 {
		s := of(t, "abc", false)
		frames := []api.Frame{takes(t, s, 1, 9, 0, "a", false), takes(t, s, 1, 9, 1, "b", false), takes(t, s, 1, 9, 2, "c", false)}
		got(t, s, frames...)
		stands(t, s, 3, false)
		write(t, s, "", true, api.OK)
		stands(t, s, 3, false)
		got(t, s, takes(t, s, 1, 9, 3, "", true))
		stands(t, s, 3, true)

		s = of(t, "abc", false)
		frames = []api.Frame{takes(t, s, 1, 9, 0, "a", false), takes(t, s, 1, 9, 1, "b", false), takes(t, s, 1, 9, 2, "c", false)}
		write(t, s, "", true, api.OK)
		frames = append(frames, takes(t, s, 1, 9, 3, "", true))
		for i := range frames {
			if i != last {
				got(t, s, frames[i])
			}
		}
		stands(t, s, 3, false)
		got(t, s, frames[last])
		stands(t, s, 3, true)
		loses(t, s, frames...)
		stands(t, s, 3, true)
		none(t, s, 9, 9)
		none(t, s, 0, 9)
	}
}

// R3: a sender that is not there, and one that no call made: each function.
func TestNoSender(t *testing.T) {
	for name, s := range map[string]*stream.Sender{"nil": nil, "zero": new(stream.Sender), "made by hand": {}} {
		for _, b := range []string{"", "abc", string(make([]byte, api.MaxBytes+1))} {
			write(t, s, b, true, api.ErrNil)
			write(t, s, b, false, api.ErrNil)
		}
		for _, n := range []int{-1, 0, 9, math.MaxInt} {
			none(t, s, n, math.MaxUint64)
		}
		for _, f := range []api.Frame{{}, fr(0, "", false), fr(0, "", true), fr(9, "x", false), {Kind: api.FrStream}, {Kind: api.FrStream, Fin: true}} {
			if e := s.Got(f); e != api.ErrNil {
				t.Errorf("%s: Got(%v): %d", name, f, e)
			}
			if e := s.Lost(f); e != api.ErrNil {
				t.Errorf("%s: Lost(%v): %d", name, f, e)
			}
		}
		for _, credit := range []uint64{0, most, most + 1, math.MaxUint64} {
			raise(t, s, credit, api.ErrNil)
		}
		resets(t, s, 0, api.ErrNil)
		stands(t, s, 0, false)
	}
}
