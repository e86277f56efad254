package ledger_test

import (
	"math"
	"slices"
	"testing"

	"mailcoach/api"
	"mailcoach/ledger"
)

const (
	most = api.MaxNumber
	late = api.MaxTime
)

// made: a ledger of nothing.
func made(t *testing.T) *ledger.Ledger {
	t.Helper()
	l := ledger.New()
	if l == nil {
		t.Fatal("New: none")
	}
	return l
}

// set: the ranges of pairs of numbers.
func set(pairs ...uint64) (r []api.Range) {
	for i := 0; i < len(pairs); i += 2 {
		r = append(r, api.Range{From: pairs[i], To: pairs[i+1]})
	}
	return r
}

// list of numbers.
func list(numbers ...uint64) []uint64 { return numbers }

// send: a packet, which is answered so.
func send(t *testing.T, l *ledger.Ledger, number uint64, size int, now uint64, asks bool, want api.Errno) {
	t.Helper()
	if e := l.Sent(number, size, now, asks); e != want {
		t.Errorf("Sent(%d, %d, %d, %v): %d; want %d", number, size, now, asks, e, want)
	}
}

// row: packets of 1000 bytes that ask, sent at these times, from the number 0 on.
func row(t *testing.T, times ...uint64) *ledger.Ledger {
	t.Helper()
	l := made(t)
	for i, at := range times {
		send(t, l, uint64(i), 1000, at, true, api.OK)
	}
	return l
}

// answers: numbers are answered, and these are got and lost.
func answers(t *testing.T, l *ledger.Ledger, r []api.Range, delay, now uint64, got, lost []uint64) {
	t.Helper()
	if g, x, e := l.Answer(r, delay, now); !slices.Equal(g, got) || !slices.Equal(x, lost) || e != api.OK {
		t.Errorf("Answer(%v, %d, %d): %v, %v, %d; want %v, %v", r, delay, now, g, x, e, got, lost)
	}
}

// refuses: an answer is refused, with nothing beside it.
func refuses(t *testing.T, l *ledger.Ledger, r []api.Range, delay, now uint64, want api.Errno) {
	t.Helper()
	if got, lost, e := l.Answer(r, delay, now); len(got)+len(lost) != 0 || e != want {
		t.Errorf("Answer(%v, %d, %d): %v, %v, %d; want %d", r, delay, now, got, lost, e, want)
	}
}

// loses: these are lost at a time.
func loses(t *testing.T, l *ledger.Ledger, now uint64, want ...uint64) {
	t.Helper()
	if lost, e := l.Lose(now); !slices.Equal(lost, want) || e != api.OK {
		t.Errorf("Lose(%d): %v, %d; want %v", now, lost, e, want)
	}
}

// times: what was measured.
func times(t *testing.T, l *ledger.Ledger, latest, smooth, vary, least uint64) {
	t.Helper()
	if want := (ledger.Times{Latest: latest, Smooth: smooth, Vary: vary, Least: least}); l.Times() != want {
		t.Errorf("times %v; want %v", l.Times(), want)
	}
}

// bytesOf: how many bytes may be on their way, and how many are.
func bytesOf(t *testing.T, l *ledger.Ledger, room, away int) {
	t.Helper()
	if l.Room() != room || l.Away() != away {
		t.Errorf("room %d, away %d; want %d, %d", l.Room(), l.Away(), room, away)
	}
}

// when: something is to be done at this time.
func when(t *testing.T, l *ledger.Ledger, want uint64) {
	t.Helper()
	if at, ok := l.When(); at != want || !ok {
		t.Errorf("when %d, %v; want %d", at, ok, want)
	}
}

// never: nothing is to be done.
func never(t *testing.T, l *ledger.Ledger) {
	t.Helper()
	if at, ok := l.When(); at != 0 || ok {
		t.Errorf("when %d, %v; want never", at, ok)
	}
}

// P15.2 to P15.6: the chapter's examples.
func TestExamples(t *testing.T) {
	l := row(t, 0, 10, 20, 30, 40)
	when(t, l, 1062)
	if l.Wait() != 1022 {
		t.Errorf("wait %d", l.Wait())
	}
	bytesOf(t, l, 12000, 5000)
	answers(t, l, set(4, 4), 0, 90, list(4), list(0, 1, 2, 3))
	times(t, l, 50, 50, 25, 50)
	bytesOf(t, l, 6500, 0)
	loses(t, l, 91)
	never(t, l)
}

// P15.1, P15.5, P15.6: a ledger of nothing, at the time 0.
func TestNothing(t *testing.T) {
	l := made(t)
	times(t, l, 0, 333, 166, 0)
	if l.Wait() != 333+664+25 {
		t.Errorf("wait %d", l.Wait())
	}
	bytesOf(t, l, 12000, 0)
	never(t, l)
	loses(t, l, 0)
	loses(t, l, 0)
	for _, r := range [][]api.Range{set(0, 0), set(most, most), set(0, most), set(3, 4, 7, 9)} {
		refuses(t, l, r, 0, 0, api.ErrState)
	}
	loses(t, l, late)
	times(t, l, 0, 333, 166, 0)
	bytesOf(t, l, 12000, 0)
	never(t, l)
	send(t, l, 0, 1, late, true, api.OK)
	when(t, l, late+1022)
}

// P15.1, R5: each New makes another one.
func TestNewTwice(t *testing.T) {
	a, b := made(t), made(t)
	send(t, a, 7, 100, 50, true, api.OK)
	answers(t, a, set(7, 7), 0, 60, list(7), nil)
	times(t, b, 0, 333, 166, 0)
	bytesOf(t, b, 12000, 0)
	never(t, b)
	send(t, b, 0, 1, 0, true, api.OK)
	bytesOf(t, b, 12000, 1)
}

// P15.2: numbers 0 and MaxNumber, sizes 1 and MaxPacket, times 0 and MaxTime, the same time twice.
func TestSentAtTheEdges(t *testing.T) {
	l := made(t)
	send(t, l, 0, 1, 0, true, api.OK)
	send(t, l, 1, api.MaxPacket, 0, true, api.OK)
	send(t, l, most-1, 1, late, true, api.OK)
	send(t, l, most, api.MaxPacket, late, true, api.OK)
	bytesOf(t, l, 12000, 2402)
	when(t, l, late+1022)
	send(t, l, most, 1, late, true, api.ErrArg)
	send(t, l, most+1, 1, late, true, api.ErrArg)
	answers(t, l, set(0, most), late, late, list(0, 1, most-1, most), nil)
	times(t, l, 0, 0, 0, 0)
	bytesOf(t, l, 14402, 0)
	l = made(t)
	send(t, l, most, 5, late, false, api.OK)
	for _, n := range []uint64{0, 1, most - 1, most, most + 1, math.MaxUint64} {
		send(t, l, n, 5, late, true, api.ErrArg)
	}
	answers(t, l, set(0, most-2, most, most), 0, late, list(most), nil)
}

// P15.2: a number that is above MaxNumber, or not above all that were sent, whatever became of these.
func TestSentWithWrongNumber(t *testing.T) {
	l := made(t)
	for _, n := range []uint64{most + 1, 1 << 63, math.MaxUint64} {
		send(t, l, n, 1, 0, true, api.ErrArg)
	}
	send(t, l, 5, 10, 0, true, api.OK)
	send(t, l, 9, 10, 0, false, api.OK)
	wrong := func() {
		t.Helper()
		for _, n := range []uint64{0, 4, 5, 6, 8, 9, most + 1, math.MaxUint64} {
			send(t, l, n, 1, 10, true, api.ErrArg)
		}
	}
	wrong()
	bytesOf(t, l, 12000, 10)
	answers(t, l, set(9, 9), 0, 0, list(9), list(5))
	wrong()
	never(t, l)
	send(t, l, 10, 1, 10, true, api.OK)
	send(t, l, 10, 1, 10, true, api.ErrArg)
}

// P15.2: sizes that may not be.
func TestSentWithWrongSize(t *testing.T) {
	l := made(t)
	for _, size := range []int{0, -1, math.MinInt, api.MaxPacket + 1, 1 << 20, math.MaxInt} {
		send(t, l, 0, size, 0, true, api.ErrArg)
		send(t, l, 0, size, 0, false, api.ErrArg)
	}
	bytesOf(t, l, 12000, 0)
	never(t, l)
	send(t, l, 0, 1, 0, true, api.OK)
}

// P15.2 to P15.4: a time above MaxTime, or below one that was told ahead, by whichever call.
func TestWrongTimes(t *testing.T) {
	for name, tell := range map[string]func(*ledger.Ledger){
		"Sent":                func(l *ledger.Ledger) { send(t, l, 8, 10, 100, true, api.OK) },
		"Sent, not asking":    func(l *ledger.Ledger) { send(t, l, 8, 10, 100, false, api.OK) },
		"Answer":              func(l *ledger.Ledger) { answers(t, l, set(0, 0), 0, 100, list(0), nil) },
		"Answer, with no got": func(l *ledger.Ledger) { answers(t, l, set(5, 5), 0, 100, nil, nil) },
		"Lose":                func(l *ledger.Ledger) { loses(t, l, 100) },
	} {
		l := made(t)
		send(t, l, 0, 10, 7, true, api.OK)
		send(t, l, 6, 10, 7, true, api.OK)
		tell(l)
		for _, now := range []uint64{0, 7, 99, late + 1, 1 << 63, math.MaxUint64} {
			send(t, l, 20, 10, now, true, api.ErrArg)
			refuses(t, l, set(0, 0), 0, now, api.ErrArg)
			refuses(t, l, set(6, 6), 0, now, api.ErrArg)
			if lost, e := l.Lose(now); len(lost) != 0 || e != api.ErrArg {
				t.Errorf("%s: Lose(%d): %v, %d", name, now, lost, e)
			}
		}
		send(t, l, 20, 10, 100, true, api.OK) // the same time again
		loses(t, l, 100)
		loses(t, l, 101)
	}
}

// P15.2 to P15.4, R2: a time that was told with what was refused counts for nothing.
func TestRefusedTimes(t *testing.T) {
	l := row(t, 5, 5)
	send(t, l, 1, 10, 900, true, api.ErrArg)
	send(t, l, 2, 0, 900, true, api.ErrArg)
	refuses(t, l, nil, 0, 900, api.ErrArg)
	refuses(t, l, set(0, 0), late+1, 900, api.ErrArg)
	refuses(t, l, set(0, 2), 0, 900, api.ErrState)
	if _, e := l.Lose(late + 1); e != api.ErrArg {
		t.Errorf("Lose above MaxTime: %d", e)
	}
	when(t, l, 1027)
	answers(t, l, set(1, 1), 0, 5, list(1), nil)
	bytesOf(t, l, 13000, 1000)
	times(t, l, 0, 0, 0, 0)
}

// P15.2: MaxBytes packets may be on their way, whether they ask or not; one more is refused, till some are answered or lost.
func TestFull(t *testing.T) {
	l := made(t)
	for i := range uint64(api.MaxBytes) {
		if e := l.Sent(i, 1200, i, i%4 != 0); e != api.OK {
			t.Fatalf("the packet %d: %d", i, e)
		}
	}
	const n, now = api.MaxBytes, api.MaxBytes
	bytesOf(t, l, 12000, n/4*3*1200)
	send(t, l, n, 1, now, true, api.ErrFull)
	send(t, l, most, 1200, late, false, api.ErrFull)
	send(t, l, n-1, 1, now, true, api.ErrArg)
	send(t, l, n, 0, now, true, api.ErrArg)
	send(t, l, n, 1, 0, true, api.ErrArg)
	bytesOf(t, l, 12000, n/4*3*1200)
	when(t, l, n-1+1022)
	answers(t, l, set(0, 0), 0, now, list(0), nil) // does not ask
	bytesOf(t, l, 12000, n/4*3*1200)
	send(t, l, n, 1, now, true, api.OK)
	send(t, l, n+1, 1, now, true, api.ErrFull)
	answers(t, l, set(4, 4), 0, now, list(4), list(1, 2, 3)) // one is answered, three are lost
	for i := range uint64(4) {
		send(t, l, n+1+i, 1, now, i%2 == 0, api.OK)
	}
	send(t, l, n+5, 1, now, true, api.ErrFull)
	got, lost, e := l.Answer(set(n/2, n+4), 0, now)
	if len(got) != n/2+5 || len(lost) != n/2-5 || e != api.OK {
		t.Errorf("%d got, %d lost, %d", len(got), len(lost), e)
	}
	never(t, l)
	send(t, l, n+5, 1, now, true, api.OK)
}

// P15.2, P15.3: with very many on their way, each of them is answered by a call of its own, and another one sent.
func TestManyOneByOne(t *testing.T) {
	l := made(t)
	const n = 1 << 18
	for i := range uint64(n) {
		send(t, l, i, 1, 0, true, api.OK)
	}
	for i := range uint64(n) {
		answers(t, l, set(0, i), 0, 0, list(i), nil)
		send(t, l, n+i, 1, 0, true, api.OK)
		when(t, l, 26)
	}
	bytesOf(t, l, 12000+n, n)
}

// P15.3: lists that are no set, an empty one, delays above MaxTime.
func TestAnswerOfWrongArguments(t *testing.T) {
	l := row(t, 0, 10, 20, 30, 40)
	many := make([]api.Range, 65)
	for i := range many {
		many[i] = api.Range{From: uint64(3 * i), To: uint64(3 * i)}
	}
	for _, r := range [][]api.Range{
		nil, {}, set(2, 1), set(0, 1, 2, 2), set(0, 1, 1, 2), set(3, 3, 0, 0), set(0, most+1), set(most+1, most+1), set(0, 0, math.MaxUint64, math.MaxUint64), set(1, 1, 1, 1), many,
	} {
		refuses(t, l, r, 0, 50, api.ErrArg)
	}
	for _, delay := range []uint64{late + 1, 1 << 62, math.MaxUint64} {
		refuses(t, l, set(0, 0), delay, 50, api.ErrArg)
	}
	bytesOf(t, l, 12000, 5000)
	times(t, l, 0, 333, 166, 0)
	answers(t, l, set(0, 4), late, 50, list(0, 1, 2, 3, 4), nil)
}

// P15.3: the last number is above all that were sent; that others of the set were sent makes no difference.
func TestAnswerOfWhatWasNotSent(t *testing.T) {
	l := row(t, 0, 10, 20)
	for _, r := range [][]api.Range{set(0, 3), set(3, 3), set(0, 0, 3, 3), set(0, most), set(most, most)} {
		refuses(t, l, r, 0, 50, api.ErrState)
	}
	bytesOf(t, l, 12000, 3000)
	answers(t, l, set(0, 2), 0, 50, list(0, 1, 2), nil)
	for range 2 {
		refuses(t, l, set(0, 3), 0, 50, api.ErrState)
		answers(t, l, set(0, 2), 0, 50, nil, nil)
	}
}

// P15.2, P15.3: where two refusals fit, ErrArg is ahead of ErrState; of a ledger that is not there, ErrNil is ahead of all.
func TestWhichRefusal(t *testing.T) {
	l := row(t, 0, 10)
	refuses(t, l, set(9, 9), late+1, 50, api.ErrArg)
	refuses(t, l, set(9, 9), 0, 9, api.ErrArg)
	refuses(t, l, set(9, 9), 0, late+1, api.ErrArg)
	refuses(t, l, set(9, 8), 0, 50, api.ErrArg)
	refuses(t, l, set(9, 9), 0, 50, api.ErrState)
	for _, l := range []*ledger.Ledger{nil, {}} {
		send(t, l, most+1, 0, late+1, true, api.ErrNil)
		refuses(t, l, nil, late+1, late+1, api.ErrNil)
		if _, e := l.Lose(late + 1); e != api.ErrNil {
			t.Errorf("Lose: %d", e)
		}
	}
}

// R3: no ledger, and one that New did not make: each call does nothing.
func TestNoLedger(t *testing.T) {
	for _, l := range []*ledger.Ledger{nil, {}, new(ledger.Ledger)} {
		for range 2 {
			send(t, l, 0, 1, 0, true, api.ErrNil)
			refuses(t, l, set(0, 0), 0, 0, api.ErrNil)
			if lost, e := l.Lose(0); len(lost) != 0 || e != api.ErrNil {
				t.Errorf("Lose: %v, %d", lost, e)
			}
			times(t, l, 0, 0, 0, 0)
			bytesOf(t, l, 0, 0)
			never(t, l)
			if l.Wait() != 0 {
				t.Errorf("wait %d", l.Wait())
			}
		}
	}
}

// P15.3: what is in the set and on its way is got, once; what is between, was answered or lost, or has a number that was not used, is not.
func TestGot(t *testing.T) {
	l := made(t)
	for _, n := range []uint64{2, 4, 5, 10, 11, 12, 20, 30} {
		send(t, l, n, 100, 0, n%2 == 0, api.OK)
	}
	answers(t, l, set(0, 1, 3, 3, 6, 9, 13, 19), 0, 0, nil, nil)
	answers(t, l, set(0, 4, 7, 9), 0, 0, list(2, 4), nil)
	answers(t, l, set(0, 4, 7, 9), 0, 0, nil, nil)
	bytesOf(t, l, 12200, 400)
	answers(t, l, set(0, 4, 12, 12), 0, 0, list(12), list(5))
	answers(t, l, set(0, 11), 0, 0, list(10, 11), nil)
	answers(t, l, set(0, 19), 0, 0, nil, nil)
	answers(t, l, set(0, 30), 0, 0, list(20, 30), nil)
	bytesOf(t, l, 12600, 0)
	never(t, l)
}

// P15.3: where nothing is got nothing else is done: what is late is not lost, but the time is told.
func TestNothingGot(t *testing.T) {
	l := row(t, 0, 10, 20)
	answers(t, l, set(2, 2), 0, 21, list(2), list(0, 1)) // the patience is 1
	l = row(t, 0, 0, 20)
	answers(t, l, set(2, 2), 0, 120, list(2), list(0, 1)) // 112
	l = row(t, 0, 10, 20)
	answers(t, l, set(2, 2), 0, 30, list(2), list(0, 1)) // 11
	l = row(t, 100, 100, 100)
	answers(t, l, set(2, 2), 0, 200, list(2), nil)
	answers(t, l, set(2, 2), 0, 1000, nil, nil)
	bytesOf(t, l, 13000, 2000)
	times(t, l, 100, 100, 50, 100)
	if _, e := l.Lose(999); e != api.ErrArg {
		t.Errorf("Lose(999): %d", e)
	}
	when(t, l, 212)
	loses(t, l, 1000, 0, 1)
	answers(t, l, set(0, 2), 0, 1000, nil, nil)
}
