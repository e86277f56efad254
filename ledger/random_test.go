package ledger_test

import (
	"fmt"
	"math/rand"
	"slices"
	"sync"
	"testing"

	"mailcoach/api"
	"mailcoach/ledger"
)

// mover: makes calls of a pair, told by bytes; beyond the last byte all are 0.
type mover struct {
	pair
	rest []byte
	now  uint64
	next uint64
}

func (m *mover) byte() uint64 {
	if len(m.rest) == 0 {
		return 0
	}
	b := m.rest[0]
	m.rest = m.rest[1:]
	return uint64(b)
}

// one: of several.
func (m *mover) one(of ...uint64) uint64 { return of[m.byte()%uint64(len(of))] }

// time: mostly some time on; or just at, one ahead of or one behind the one that When tells; or one that may not be.
func (m *mover) time() uint64 {
	at, _ := m.l.When()
	b := m.byte()
	switch {
	case b < 40:
		return m.now
	case b < 200:
		return m.now + b%32
	case b < 210:
		return m.now + m.byte()*16
	case b < 250:
		return max(at+m.byte()%3, 1) - 1
	case b < 252:
		return m.now - m.byte()
	case b == 252:
		return m.one(api.MaxTime, api.MaxTime+1, 0, 1<<63)
	}
	return m.now + 1
}

// came: keeps the time, if the call was taken.
func (m *mover) came() { m.now = max(m.now, slices.Max(append([]uint64{0}, m.w.told...))) }

func (m *mover) sendOne() {
	number := m.next + m.one(0, 0, 0, 0, 0, 1, 2, 7)
	if b := m.byte(); b > 250 {
		number = m.one(0, m.next-1, api.MaxNumber, api.MaxNumber+1, 1<<63)
	}
	size := int(m.one(1200, 1000, 1199, 600, 1, 37, 0, 1201))
	m.send(number, size, m.time(), m.byte()%4 != 0)
	if n := len(m.w.all); n > 0 {
		m.next = m.w.all[n-1].number + 1
	}
	m.came()
}

// someSet: mostly of numbers of late; sometimes no set.
func (m *mover) someSet() (r []api.Range) {
	at := m.next - min(m.next, m.byte()%24)
	for range 1 + m.byte()%4 {
		to := at + m.byte()%5
		r = append(r, api.Range{From: at, To: to})
		at = to + 1 + m.one(1, 1, 1, 2, 3, 5, 9, 0)
	}
	if m.byte() < 200 && m.next > 0 { // up to what was sent
		for i := range r {
			r[i].To = min(r[i].To, m.next-1)
		}
		r = slices.DeleteFunc(r, func(x api.Range) bool { return x.From > x.To })
	}
	return r
}

func (m *mover) answerOne() {
	m.answer(m.someSet(), m.one(0, 0, 0, 3, 20, 200, api.MaxTime, api.MaxTime+1), m.time())
	m.came()
}

func (m *mover) loseOne() {
	m.lose(m.time())
	m.came()
}

// move: as the bytes tell.
func move(t *testing.T, b []byte) {
	m := &mover{pair: newPair(t), rest: b}
	m.same()
	for len(m.rest) > 0 {
		switch m.byte() % 8 {
		case 0, 1, 2, 3:
			m.sendOne()
		case 4, 5, 6:
			m.answerOne()
		case 7:
			m.loseOne()
		}
	}
}

// P15.1 to P15.7: many runs, held against the chapter's words.
func TestRandom(t *testing.T) {
	for seed := range int64(1500) {
		b := make([]byte, 100+seed)
		rand.New(rand.NewSource(seed)).Read(b)
		move(t, b)
	}
}

// P15.1 to P15.7: likewise, of bytes that are looked for.
func FuzzLedger(f *testing.F) {
	f.Add([]byte{0, 4, 7})
	for seed := range int64(5) {
		b := make([]byte, 200)
		rand.New(rand.NewSource(100 + seed)).Read(b)
		f.Add(b)
	}
	f.Fuzz(func(t *testing.T, b []byte) {
		if len(b) <= 4000 {
			move(t, b)
		}
	})
}

// P15.3, P15.4, P15.7: each packet is told once, as got or as lost, of all orders in which seven are answered, one by one, with any time between.
func TestAllOrders(t *testing.T) {
	var go7 func(order []uint64, left []uint64)
	go7 = func(order, left []uint64) {
		if len(left) == 0 {
			for gap := range uint64(3) {
				oneByOne(t, order, gap)
			}
			return
		}
		for i := range left {
			go7(append(slices.Clone(order), left[i]), slices.Delete(slices.Clone(left), i, i+1))
		}
	}
	go7(nil, list(0, 1, 2, 3, 4, 5, 6))
}

// oneByOne: seven packets are sent, and answered in an order, with a gap of time between.
func oneByOne(t *testing.T, order []uint64, gap uint64) {
	t.Helper()
	c := newPair(t)
	for n := range uint64(len(order)) {
		c.send(n, 500, n*gap, n%3 != 1)
	}
	now := uint64(len(order)) * gap
	for _, n := range order {
		now += gap
		c.answer(set(n, n), 0, now)
	}
	c.lose(now + 1000)
	if len(c.told) != len(order) { // the last one was answered, so all are below the front, or it
		t.Fatalf("%v: %d were told", order, len(c.told))
	}
	if c.l.Away() != 0 {
		t.Fatalf("%v: %d bytes are away", order, c.l.Away())
	}
}

// workedOut: what a run tells at its steps, as worked out elsewhere by another program: Latest, Smooth, Vary, Least, Wait, Room, Away, When (0: never).
var workedOut = []string{
	"0 333 166 0 1022 12000 200 1025",
	"0 333 166 0 1022 12000 1593 1036",
	"0 333 166 0 1022 12000 4155 1068",
	"52 47 18 47 144 6696 4254 217",
	"38 44 10 38 109 6696 4206 193",
	"38 43 9 38 104 6906 4505 215",
	"47 41 6 38 90 7333 3304 213",
	"43 40 5 38 85 3761 3755 239",
	"38 39 2 38 72 3761 4054 240",
	"38 38 1 37 67 3761 5151 261",
	"52 38 2 37 71 4260 4305 291",
	"40 39 2 37 72 4902 3144 303",
	"37 37 1 37 66 5359 3555 323",
	"40 37 1 37 66 5630 3854 343",
}

// told: what a ledger tells of itself, in the form of workedOut.
func told(l *ledger.Ledger) string {
	x := l.Times()
	at, _ := l.When()
	return fmt.Sprint(x.Latest, x.Smooth, x.Vary, x.Least, l.Wait(), l.Room(), l.Away(), at)
}

// P15.2 to P15.6: a run of sending on and answering, with every seventh packet lost.
func TestWorkedOutElsewhere(t *testing.T) {
	l := made(t)
	now := uint64(0)
	var steps []string
	for i := range uint64(40) {
		now += 3 + i*i%11
		send(t, l, i, int(200+(i*331)%1001), now, i%5 != 3, api.OK)
		if i >= 6 && (i-6)%7 != 0 {
			if _, _, e := l.Answer(set(i-6, i-6), i%4*5, now); e != api.OK {
				t.Fatal(e)
			}
		}
		if i%3 == 0 {
			steps = append(steps, told(l))
		}
	}
	if !slices.Equal(steps, workedOut) {
		t.Errorf("%q", steps)
	}
}

// R4: what is handed in stays as it was, its spare room too, and is not kept.
func TestHandedIn(t *testing.T) {
	l := row(t, 0, 0, 0, 0, 0, 0)
	room := set(0, 0, 2, 2, 77, 78, 99, 98)
	r := room[:2]
	answers(t, l, r, 0, 0, list(0, 2), nil)
	if !slices.Equal(room, set(0, 0, 2, 2, 77, 78, 99, 98)) {
		t.Errorf("the set is %v now", room)
	}
	room[0], room[1] = api.Range{From: 5, To: 5}, api.Range{From: 1, To: 1}
	loses(t, l, 0)
	answers(t, l, set(1, 1), 0, 0, list(1), nil)
	bytesOf(t, l, 15000, 3000)
}

// fill: a list and its spare room, with a number.
func fill(l []uint64, n uint64) {
	l = l[:cap(l)]
	for i := range l {
		l[i] = n
	}
}

// R4: what is answered is memory of its own, spare room too: filled with other numbers it changes neither another answer nor the ledger.
func TestAnswered(t *testing.T) {
	l := row(t, 0, 0, 0, 0, 0, 0, 0, 0, 0, 0, 0)
	got, lost, _ := l.Answer(set(1, 2, 5, 5), 0, 0)
	fill(got, 1000)
	if !slices.Equal(lost, list(0)) {
		t.Errorf("lost is %v now", lost)
	}
	fill(lost, 2000)
	if got[0] != 1000 || len(got) != 3 {
		t.Errorf("got is %v now", got)
	}
	bytesOf(t, l, 7500, 7000)
	again, e := l.Lose(1)
	if !slices.Equal(again, list(3, 4)) || e != api.OK {
		t.Errorf("Lose: %v, %d", again, e)
	}
	fill(again, 3000)
	if got[0] != 1000 || lost[0] != 2000 {
		t.Errorf("got %v, lost %v", got, lost)
	}
	answers(t, l, set(6, 10), 0, 1, list(6, 7, 8, 9, 10), nil)
	bytesOf(t, l, 7500, 0)
}

// R5: the same calls answer the same, in whichever ledger and beside whatever else runs.
func TestSideBySide(t *testing.T) {
	var all sync.WaitGroup
	var steps [8][]string
	for w := range steps {
		all.Go(func() {
			l := ledger.New()
			for i := range uint64(300) {
				l.Sent(i, int(1+i*7%1200), 2*i, i%3 > 0)
				if i%4 == 3 {
					got, lost, e := l.Answer(set(i-2, i-2), i, 2*i)
					steps[w] = append(steps[w], fmt.Sprint(got, lost, e))
				}
				lost, e := l.Lose(2*i + 1)
				steps[w] = append(steps[w], fmt.Sprint(lost, e, told(l)))
			}
		})
	}
	all.Wait()
	for w := range steps {
		if !slices.Equal(steps[w], steps[0]) {
			t.Errorf("the ledger %d answered otherwise", w)
		}
	}
}
