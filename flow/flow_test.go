package flow_test

import (
	"math"
	"math/rand"
	"sync"
	"testing"

	"mailcoach/api"
	"mailcoach/flow"
)

const greatestNumber = 1<<62 - 1

// credit: of its limit, and of what is used.
func credit(limit, used uint64) flow.Credit { return flow.Credit{Limit: limit, Used: used} }

// change: one of the calls that answer credit.
type change func(flow.Credit, uint64) (flow.Credit, api.Errno)

// changed: a call of credit and a number, and what it should answer.
type changed struct {
	name string
	c    flow.Credit
	n    uint64
	want flow.Credit
	e    api.Errno
}

func holds(t *testing.T, do change, list []changed) {
	t.Helper()
	for _, x := range list {
		if got, e := do(x.c, x.n); got != x.want || e != x.e {
			t.Errorf("%s: %v and %d: %v, %d; want %v, %d", x.name, x.c, x.n, got, e, x.want, x.e)
		}
	}
}

// noCredits: credit that may not be, by why.
func noCredits() map[string]flow.Credit {
	return map[string]flow.Credit{
		"Used above Limit":               credit(3, 10),
		"Used one above Limit":           credit(3, 4),
		"Used above a Limit of 0":        credit(0, 1),
		"Used far above Limit":           credit(0, math.MaxUint64),
		"Used above MaxNumber":           credit(greatestNumber, greatestNumber+1),
		"Limit one above MaxNumber":      credit(greatestNumber+1, 0),
		"Limit far above MaxNumber":      credit(math.MaxUint64, 0),
		"Limit above MaxNumber, used up": credit(greatestNumber+1, greatestNumber+1),
		"both the greatest of 64 bits":   credit(math.MaxUint64, math.MaxUint64),
		"Limit and Used above MaxNumber": credit(1<<63, 1<<63+1),
		"Limit above MaxNumber, used":    credit(1<<63, 1<<61),
	}
}

// tooGreat: numbers above MaxNumber, for which sums with small ones may wrap round.
func tooGreat() []uint64 {
	return []uint64{greatestNumber + 1, greatestNumber + 2, 1 << 63, math.MaxUint64 - 1, math.MaxUint64}
}

// P14.1 to P14.4: the chapter's examples.
func TestExamples(t *testing.T) {
	holds(t, flow.Spend, []changed{{"Spend", credit(10, 3), 7, credit(10, 10), api.OK}, {"Spend", credit(10, 3), 8, credit(0, 0), api.ErrFlow}})
	holds(t, flow.Raise, []changed{{"Raise", credit(10, 3), 20, credit(20, 3), api.OK}, {"Raise", credit(10, 3), 5, credit(10, 3), api.OK}})
	holds(t, flow.Came, []changed{{"Came", credit(10, 3), 8, credit(10, 8), api.OK}, {"Came", credit(10, 3), 2, credit(10, 3), api.OK}, {"Came", credit(10, 3), 11, credit(0, 0), api.ErrFlow}})
	if a, b := flow.Left(credit(10, 3)), flow.Left(credit(3, 10)); a != 7 || b != 0 {
		t.Errorf("Left: %d, %d; want 7, 0", a, b)
	}
	if limit, worth := flow.Offer(credit(10, 3), 5, 10); limit != 15 || !worth {
		t.Errorf("Offer of 5: %d, %v; want 15, true", limit, worth)
	}
	if limit, worth := flow.Offer(credit(10, 3), 4, 10); limit != 0 || worth {
		t.Errorf("Offer of 4: %d, %v; want 0, false", limit, worth)
	}
	if server, oneWay, n := flow.Stream(7); !server || !oneWay || n != 1 {
		t.Errorf("Stream: %v, %v, %d; want true, true, 1", server, oneWay, n)
	}
	if id, e := flow.ID(true, true, 1); id != 7 || e != api.OK {
		t.Errorf("ID: %d, %d; want 7, 0", id, e)
	}
}

// P14.1: Spend at its edges.
func TestSpend(t *testing.T) {
	holds(t, flow.Spend, []changed{
		{"nothing", credit(10, 3), 0, credit(10, 3), api.OK},
		{"one", credit(10, 3), 1, credit(10, 4), api.OK},
		{"one less than is left", credit(10, 3), 6, credit(10, 9), api.OK},
		{"just what is left", credit(10, 3), 7, credit(10, 10), api.OK},
		{"one more than is left", credit(10, 3), 8, credit(0, 0), api.ErrFlow},
		{"as much as Limit", credit(10, 3), 10, credit(0, 0), api.ErrFlow},
		{"nothing of what is used up", credit(10, 10), 0, credit(10, 10), api.OK},
		{"one of what is used up", credit(10, 10), 1, credit(0, 0), api.ErrFlow},
		{"nothing of no credit", credit(0, 0), 0, credit(0, 0), api.OK},
		{"one of no credit", credit(0, 0), 1, credit(0, 0), api.ErrFlow},
		{"all numbers", credit(greatestNumber, 0), greatestNumber, credit(greatestNumber, greatestNumber), api.OK},
		{"all but one of them", credit(greatestNumber, 0), greatestNumber - 1, credit(greatestNumber, greatestNumber-1), api.OK},
		{"the last one", credit(greatestNumber, greatestNumber-1), 1, credit(greatestNumber, greatestNumber), api.OK},
		{"one too many", credit(greatestNumber, greatestNumber-1), 2, credit(0, 0), api.ErrFlow},
		{"nothing behind all of them", credit(greatestNumber, greatestNumber), 0, credit(greatestNumber, greatestNumber), api.OK},
		{"one behind all of them", credit(greatestNumber, greatestNumber), 1, credit(0, 0), api.ErrFlow},
		{"MaxNumber, of few", credit(10, 3), greatestNumber, credit(0, 0), api.ErrFlow},
		{"MaxNumber, of all that are used up", credit(greatestNumber, greatestNumber), greatestNumber, credit(0, 0), api.ErrFlow},
	})
}

// P14.1: Left at its edges, and of credit that may not be.
func TestLeft(t *testing.T) {
	for _, x := range []struct {
		c    flow.Credit
		want uint64
	}{
		{credit(0, 0), 0}, {credit(1, 0), 1}, {credit(1, 1), 0}, {credit(10, 0), 10}, {credit(10, 3), 7}, {credit(10, 9), 1}, {credit(10, 10), 0},
		{credit(greatestNumber, 0), greatestNumber}, {credit(greatestNumber, 1), greatestNumber - 1}, {credit(greatestNumber, greatestNumber-1), 1}, {credit(greatestNumber, greatestNumber), 0},
	} {
		if got := flow.Left(x.c); got != x.want {
			t.Errorf("%v: %d; want %d", x.c, got, x.want)
		}
	}
	for name, c := range noCredits() {
		if got := flow.Left(c); got != 0 {
			t.Errorf("%s: %d; want 0", name, got)
		}
	}
}

// P14.1: Raise at its edges.
func TestRaise(t *testing.T) {
	holds(t, flow.Raise, []changed{
		{"one above", credit(10, 3), 11, credit(11, 3), api.OK},
		{"just Limit", credit(10, 3), 10, credit(10, 3), api.OK},
		{"one below", credit(10, 3), 9, credit(10, 3), api.OK},
		{"just Used", credit(10, 3), 3, credit(10, 3), api.OK},
		{"below Used", credit(10, 3), 2, credit(10, 3), api.OK},
		{"0", credit(10, 3), 0, credit(10, 3), api.OK},
		{"from 0", credit(0, 0), 1, credit(1, 0), api.OK},
		{"0, of 0", credit(0, 0), 0, credit(0, 0), api.OK},
		{"what is used up", credit(10, 10), 20, credit(20, 10), api.OK},
		{"MaxNumber", credit(10, 3), greatestNumber, credit(greatestNumber, 3), api.OK},
		{"MaxNumber, of MaxNumber", credit(greatestNumber, 3), greatestNumber, credit(greatestNumber, 3), api.OK},
		{"one below MaxNumber", credit(greatestNumber, greatestNumber), greatestNumber - 1, credit(greatestNumber, greatestNumber), api.OK},
	})
}

// P14.2: Came at its edges.
func TestCame(t *testing.T) {
	holds(t, flow.Came, []changed{
		{"one above Used", credit(10, 3), 4, credit(10, 4), api.OK},
		{"just Used", credit(10, 3), 3, credit(10, 3), api.OK},
		{"one below Used", credit(10, 3), 2, credit(10, 3), api.OK},
		{"0", credit(10, 3), 0, credit(10, 3), api.OK},
		{"one below Limit", credit(10, 3), 9, credit(10, 9), api.OK},
		{"just Limit", credit(10, 3), 10, credit(10, 10), api.OK},
		{"one above Limit", credit(10, 3), 11, credit(0, 0), api.ErrFlow},
		{"used up, just Limit", credit(10, 10), 10, credit(10, 10), api.OK},
		{"used up, one above", credit(10, 10), 11, credit(0, 0), api.ErrFlow},
		{"0, of 0", credit(0, 0), 0, credit(0, 0), api.OK},
		{"1, of 0", credit(0, 0), 1, credit(0, 0), api.ErrFlow},
		{"MaxNumber", credit(greatestNumber, 0), greatestNumber, credit(greatestNumber, greatestNumber), api.OK},
		{"MaxNumber, again", credit(greatestNumber, greatestNumber), greatestNumber, credit(greatestNumber, greatestNumber), api.OK},
		{"MaxNumber, a Limit one below", credit(greatestNumber-1, 0), greatestNumber, credit(0, 0), api.ErrFlow},
		{"below, of MaxNumber", credit(greatestNumber, greatestNumber), 5, credit(greatestNumber, greatestNumber), api.OK},
	})
}

// P14.1, P14.2: credit that may not be, and numbers above MaxNumber, are told ahead of what there is no credit for; and nothing beside the error.
func TestRefused(t *testing.T) {
	for name, do := range map[string]change{"Spend": flow.Spend, "Raise": flow.Raise, "Came": flow.Came} {
		for why, c := range noCredits() {
			for _, n := range append(tooGreat(), 0, 1, c.Limit, c.Used, c.Limit-c.Used, greatestNumber) {
				holds(t, do, []changed{{name + ", " + why, c, n, credit(0, 0), api.ErrArg}})
			}
		}
		for _, n := range tooGreat() {
			for _, c := range []flow.Credit{credit(0, 0), credit(10, 3), credit(10, 10), credit(greatestNumber, 0), credit(greatestNumber, 1), credit(greatestNumber, greatestNumber)} {
				holds(t, do, []changed{{name + ", too great", c, n, credit(0, 0), api.ErrArg}})
			}
		}
	}
}

// P14.3: Offer at its edges.
func TestOffer(t *testing.T) {
	const m = greatestNumber
	for _, x := range []struct {
		name         string
		c            flow.Credit
		read, window uint64
		limit        uint64
		worth        bool
	}{
		{"twice is just window", credit(10, 3), 5, 10, 15, true},
		{"twice is one more than window", credit(10, 3), 5, 11, 16, true},
		{"twice is one less", credit(10, 3), 5, 9, 0, false},
		{"twice is two less", credit(10, 3), 4, 10, 0, false},
		{"twice is just window, of 2", credit(10, 3), 9, 2, 11, true},
		{"twice is one less, of 3", credit(10, 3), 8, 3, 0, false},
		{"twice is one more, of 1", credit(10, 3), 10, 1, 11, true},
		{"just Limit", credit(10, 3), 0, 10, 0, false},
		{"one below Limit", credit(10, 3), 4, 5, 0, false},
		{"below Limit", credit(10, 3), 0, 0, 0, false},
		{"far below Limit", credit(m, 3), 0, 10, 0, false},
		{"window 0, just Limit", credit(10, 3), 10, 0, 0, false},
		{"window 0, one above", credit(10, 3), 11, 0, 11, true},
		{"window 0, one below", credit(10, 3), 9, 0, 0, false},
		{"window 0, MaxNumber", credit(10, 3), m, 0, m, true},
		{"from 0", credit(0, 0), 0, 1, 1, true},
		{"0 of 0", credit(0, 0), 0, 0, 0, false},
		{"what is used up", credit(10, 10), 10, 10, 20, true},
		{"more read than came", credit(10, 3), 100, 10, 110, true},
		{"together MaxNumber", credit(10, 3), m - 10, 10, m, true},
		{"together one less", credit(10, 3), m - 11, 10, m - 1, true},
		{"together one more", credit(10, 3), m - 9, 10, m, true},
		{"each MaxNumber", credit(0, 0), m, m, m, true},
		{"each MaxNumber, half of it above", credit(m/2, 0), m, m, m, true},
		{"each MaxNumber, less than half above", credit(m/2+1, 0), m, m, 0, false},
		{"window MaxNumber", credit(0, 0), 0, m, m, true},
		{"cut to MaxNumber, so that twice is just window", credit(m-5, 3), m - 3, 10, m, true},
		{"cut to MaxNumber, so that twice is less", credit(m-4, 3), m - 3, 10, 0, false},
		{"no limit above MaxNumber", credit(m, 3), m, 10, 0, false},
		{"the last one, window 1", credit(m-1, 3), m, 1, m, true},
		{"the last one, window 2", credit(m-1, 3), m, 2, m, true},
		{"the last one, window 3", credit(m-1, 3), m, 3, 0, false},
		{"read one too great", credit(10, 3), m + 1, 0, 0, false},
		{"window one too great", credit(0, 0), 0, m + 1, 0, false},
		{"read far too great", credit(10, 3), math.MaxUint64, 20, 0, false},
		{"window far too great", credit(10, 3), 20, math.MaxUint64, 0, false},
		{"both too great", credit(10, 3), 1 << 63, 1<<63 + 20, 0, false},
	} {
		if limit, worth := flow.Offer(x.c, x.read, x.window); limit != x.limit || worth != x.worth {
			t.Errorf("%s: %v, %d and %d: %d, %v; want %d, %v", x.name, x.c, x.read, x.window, limit, worth, x.limit, x.worth)
		}
	}
	for why, c := range noCredits() {
		for _, read := range []uint64{0, 10, c.Limit, c.Used, m} {
			for _, window := range []uint64{0, 1, 10, m} {
				if limit, worth := flow.Offer(c, read, window); limit != 0 || worth {
					t.Errorf("%s: %d and %d: %d, %v; want 0, false", why, read, window, limit, worth)
				}
			}
		}
	}
}

// P14.3: Used plays no part in what is offered.
func TestOfferOfAnyUsed(t *testing.T) {
	for used := range uint64(11) {
		if limit, worth := flow.Offer(credit(10, used), 5, 10); limit != 15 || !worth {
			t.Errorf("%d used: %d, %v; want 15, true", used, limit, worth)
		}
	}
}

// P14.4: streams of all four kinds, their numbers worked out by hand, both ways.
func TestStreamAndID(t *testing.T) {
	for _, x := range []struct {
		id             uint64
		server, oneWay bool
		n              uint64
	}{
		{0, false, false, 0}, {1, true, false, 0}, {2, false, true, 0}, {3, true, true, 0},
		{4, false, false, 1}, {5, true, false, 1}, {6, false, true, 1}, {7, true, true, 1},
		{8, false, false, 2}, {252, false, false, 63}, {253, true, false, 63}, {254, false, true, 63}, {255, true, true, 63}, {256, false, false, 64},
		{1 << 61, false, false, 1 << 59}, {1<<61 + 1, true, false, 1 << 59},
		{greatestNumber - 3, false, false, 1<<60 - 1}, {greatestNumber - 2, true, false, 1<<60 - 1}, {greatestNumber - 1, false, true, 1<<60 - 1}, {greatestNumber, true, true, 1<<60 - 1},
	} {
		if server, oneWay, n := flow.Stream(x.id); server != x.server || oneWay != x.oneWay || n != x.n {
			t.Errorf("Stream %d: %v, %v, %d; want %v, %v, %d", x.id, server, oneWay, n, x.server, x.oneWay, x.n)
		}
		if id, e := flow.ID(x.server, x.oneWay, x.n); id != x.id || e != api.OK {
			t.Errorf("ID of %v, %v, %d: %d, %d; want %d, 0", x.server, x.oneWay, x.n, id, e, x.id)
		}
	}
}

// P14.4: of a number above MaxNumber, which is no stream's, the bits are told likewise, and ID does not take the rest back.
func TestStreamOfNumbersTooGreat(t *testing.T) {
	for _, x := range []struct {
		id             uint64
		server, oneWay bool
		n              uint64
	}{{1 << 62, false, false, 1 << 60}, {1<<63 + 1, true, false, 1 << 61}, {math.MaxUint64 - 1, false, true, 1<<62 - 1}, {math.MaxUint64, true, true, 1<<62 - 1}} {
		server, oneWay, n := flow.Stream(x.id)
		if server != x.server || oneWay != x.oneWay || n != x.n {
			t.Errorf("%d: %v, %v, %d; want %v, %v, %d", x.id, server, oneWay, n, x.server, x.oneWay, x.n)
		}
		if id, e := flow.ID(server, oneWay, n); id != 0 || e != api.ErrArg {
			t.Errorf("ID of %d: %d, %d; want 0, ErrArg", n, id, e)
		}
	}
}

// P14.4: n above 2^60 - 1 is refused for each kind, that whose number would wrap round to a small one too; and nothing beside the error.
func TestIDRefused(t *testing.T) {
	for kind := range 4 {
		for _, n := range []uint64{1 << 60, 1<<60 + 1, 1 << 61, 1 << 62, 1<<62 + 1, 1 << 63, math.MaxUint64} {
			if id, e := flow.ID(kind&1 != 0, kind&2 != 0, n); id != 0 || e != api.ErrArg {
				t.Errorf("kind %d, %d: %d, %d; want 0, ErrArg", kind, n, id, e)
			}
		}
	}
}

// edges: numbers at which something changes, of 64 bits.
func edges() []uint64 {
	return []uint64{0, 1, 2, 3, 5, 9, 10, 11, greatestNumber / 2, greatestNumber/2 + 1, greatestNumber - 10, greatestNumber - 5, greatestNumber - 1, greatestNumber, greatestNumber + 1, 1<<63 - 1, 1 << 63, math.MaxUint64 - 1, math.MaxUint64}
}

// asPlain: each call answers of these numbers as the chapter's words, written out otherwise, say.
func asPlain(t *testing.T, c flow.Credit, a, b uint64) {
	t.Helper()
	for _, x := range []struct {
		name      string
		do, plain change
	}{{"Spend", flow.Spend, plainSpend}, {"Raise", flow.Raise, plainRaise}, {"Came", flow.Came, plainCame}} {
		want, e := x.plain(c, a)
		holds(t, x.do, []changed{{x.name, c, a, want, e}})
	}
	if got, want := flow.Left(c), plainLeft(c); got != want {
		t.Errorf("Left %v: %d; want %d", c, got, want)
	}
	limit, worth := flow.Offer(c, a, b)
	if wantLimit, wantWorth := plainOffer(c, a, b); limit != wantLimit || worth != wantWorth {
		t.Errorf("Offer %v, %d, %d: %d, %v; want %d, %v", c, a, b, limit, worth, wantLimit, wantWorth)
	}
	streamAsPlain(t, a)
}

// streamAsPlain: likewise of a stream's number; and back.
func streamAsPlain(t *testing.T, id uint64) {
	t.Helper()
	server, oneWay, n := flow.Stream(id)
	if s, o, m := plainStream(id); server != s || oneWay != o || n != m {
		t.Errorf("Stream %d: %v, %v, %d; want %v, %v, %d", id, server, oneWay, n, s, o, m)
	}
	back, e := flow.ID(server, oneWay, n)
	if id <= greatestNumber && (back != id || e != api.OK) {
		t.Errorf("ID of what Stream says of %d: %d, %d", id, back, e)
	}
	for kind := range 4 {
		got, e := flow.ID(kind&1 != 0, kind&2 != 0, id)
		if want, f := plainID(kind&1 != 0, kind&2 != 0, id); got != want || e != f {
			t.Errorf("ID of kind %d, %d: %d, %d; want %d, %d", kind, id, got, e, want, f)
		}
	}
}

// P14.1 to P14.4: all edges with one another, held against the chapter's words.
func TestAllEdges(t *testing.T) {
	for _, limit := range edges() {
		for _, used := range edges() {
			for _, a := range edges() {
				for _, b := range edges() {
					asPlain(t, credit(limit, used), a, b)
				}
			}
		}
	}
}

// P14.1 to P14.3: all small numbers with one another, held against the chapter's words.
func TestAllSmallNumbers(t *testing.T) {
	for limit := range uint64(9) {
		for used := range limit + 2 {
			for a := range uint64(18) {
				for b := range uint64(18) {
					asPlain(t, credit(limit, used), a, b)
				}
			}
		}
	}
}

// P14.1 to P14.4: many numbers of all sizes, held against the chapter's words.
func TestManyNumbers(t *testing.T) {
	r := rand.New(rand.NewSource(14))
	number := func() uint64 { return r.Uint64() >> r.Intn(64) }
	for range 20000 {
		limit := number()
		used := number()
		if r.Intn(4) > 0 {
			limit &= greatestNumber
			used %= limit + 1
		}
		asPlain(t, credit(limit, used), number(), number())
	}
}

// P14.1: what is spent bit by bit is used as what is spent at once, and all that is left can be spent.
func TestSpendBitByBit(t *testing.T) {
	r := rand.New(rand.NewSource(141))
	for range 200 {
		c := credit(uint64(r.Intn(1000)), 0)
		var sum uint64
		for flow.Left(c) > 0 {
			n := uint64(r.Intn(20))
			d, e := flow.Spend(c, n)
			if (e == api.ErrFlow) != (n > flow.Left(c)) {
				t.Fatalf("%v, %d: %d", c, n, e)
			}
			if e == api.OK {
				sum, c = sum+n, d
			}
			if c.Used != sum {
				t.Fatalf("%v: want %d used", c, sum)
			}
		}
		if sum != c.Limit {
			t.Fatalf("%v: %d spent", c, sum)
		}
	}
}

// P14.1 to P14.3: one end sends, the other one reads and offers: never does more come than was offered, and all goes through a small window.
func TestThroughAWindow(t *testing.T) {
	for window := uint64(1); window < 40; window++ {
		sends, takes := credit(window, 0), credit(window, 0)
		for turn := 0; sends.Used < 1000; turn++ {
			if turn > 5000 {
				t.Fatalf("window %d: it stands still at %v", window, sends)
			}
			var e api.Errno
			if n := min(flow.Left(sends), 3); n > 0 {
				sends, e = flow.Spend(sends, n)
			}
			if e == api.OK {
				takes, e = flow.Came(takes, sends.Used)
			}
			if limit, worth := flow.Offer(takes, takes.Used, window); worth && e == api.OK {
				takes, e = flow.Raise(takes, limit)
				sends.Limit = takes.Limit
			}
			if e != api.OK || takes != sends || takes.Limit > takes.Used+window {
				t.Fatalf("window %d: %v, %v, %d", window, sends, takes, e)
			}
		}
	}
}

// R5: what is answered hangs on the arguments alone, whoever calls beside.
func TestSideBySide(t *testing.T) {
	var all sync.WaitGroup
	for worker := range 8 {
		all.Go(func() {
			r := rand.New(rand.NewSource(int64(worker)))
			for range 500 {
				limit := r.Uint64() >> (2 + r.Intn(62))
				asPlain(t, credit(limit, r.Uint64()%(limit+1)), r.Uint64()>>r.Intn(64), r.Uint64()>>r.Intn(64))
			}
		})
	}
	all.Wait()
}

// P14.1 to P14.4: any numbers, held against the chapter's words.
func FuzzFlow(f *testing.F) {
	f.Add(uint64(10), uint64(3), uint64(5), uint64(10))
	f.Add(uint64(greatestNumber), uint64(0), uint64(greatestNumber), uint64(1))
	f.Add(uint64(3), uint64(10), uint64(math.MaxUint64), uint64(0))
	f.Fuzz(func(t *testing.T, limit, used, a, b uint64) { asPlain(t, credit(limit, used), a, b) })
}
