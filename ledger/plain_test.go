package ledger_test

import (
	"slices"
	"testing"

	"mailcoach/api"
	"mailcoach/ledger"
)

// state of a packet.
type state int

const (
	away state = iota
	answered
	lost
)

type sent struct {
	number, time uint64
	size         int
	asks         bool
	state        state
}

// plain: a ledger as the chapter's words tell it, which forgets no packet and keeps what there may be none of by pointers.
type plain struct {
	all               []sent
	told              []uint64 // the times
	front             *uint64
	times             *ledger.Times
	window            int
	threshold, moment *uint64
}

func newPlain() *plain { return &plain{window: 12000} }

// which: the places of packets of which a thing holds.
func (p *plain) which(holds func(sent) bool) (out []int) {
	for i, s := range p.all {
		if holds(s) {
			out = append(out, i)
		}
	}
	return out
}

func (p *plain) numbers(places []int) (out []uint64) {
	for _, i := range places {
		out = append(out, p.all[i].number)
	}
	slices.Sort(out)
	return out
}

func (p *plain) wrongTime(now uint64) bool {
	return now > 1<<40-1 || slices.ContainsFunc(p.told, func(t uint64) bool { return t > now })
}

func (p *plain) aboveAll(number uint64) bool {
	return !slices.ContainsFunc(p.all, func(s sent) bool { return s.number >= number })
}

func (p *plain) send(number uint64, size int, now uint64, asks bool) api.Errno {
	if number > 1<<62-1 || !p.aboveAll(number) || size < 1 || size > 1200 || p.wrongTime(now) {
		return api.ErrArg
	}
	if len(p.which(func(s sent) bool { return s.state == away })) >= 1048576 {
		return api.ErrFull
	}
	p.told = append(p.told, now)
	p.all = append(p.all, sent{number, now, size, asks, away})
	return api.OK
}

// plainSet: does a list tell a set that has something?
func plainSet(r []api.Range) bool {
	if len(r) < 1 || len(r) > 64 {
		return false
	}
	for i, x := range r {
		if x.From > x.To || x.To > 1<<62-1 || i > 0 && (x.From <= r[i-1].To || x.From-r[i-1].To < 2) {
			return false
		}
	}
	return true
}

func (p *plain) answer(r []api.Range, delay, now uint64) (got, gone []uint64, e api.Errno) {
	if !plainSet(r) || delay > 1<<40-1 || p.wrongTime(now) {
		return nil, nil, api.ErrArg
	}
	last := r[len(r)-1].To
	if p.aboveAll(last) {
		return nil, nil, api.ErrState
	}
	p.told = append(p.told, now)
	newly := p.which(func(s sent) bool {
		in := slices.ContainsFunc(r, func(x api.Range) bool { return x.From <= s.number && s.number <= x.To })
		return s.state == away && in
	})
	if len(newly) == 0 {
		return nil, nil, api.OK
	}
	got = p.numbers(newly)
	greatest := got[len(got)-1]
	if p.front == nil || greatest > *p.front {
		p.front = &greatest
	}
	one := false
	for _, i := range newly {
		p.all[i].state = answered
		one = one || p.all[i].asks
	}
	for _, i := range newly {
		if p.all[i].number == last && one {
			p.measure(now-p.all[i].time, delay)
		}
	}
	for _, i := range newly {
		p.grow(p.all[i])
	}
	return got, p.losing(now), api.OK
}

func (p *plain) measure(latest, delay uint64) {
	if p.times == nil {
		p.times = &ledger.Times{Latest: latest, Smooth: latest, Vary: latest / 2, Least: latest}
		return
	}
	t := *p.times
	t.Latest = latest
	if latest < t.Least {
		t.Least = latest
	}
	a := int64(latest)
	if latest >= t.Least+delay {
		a = int64(latest) - int64(delay)
	}
	apart := int64(t.Smooth) - a
	if apart < 0 {
		apart = -apart
	}
	t.Vary = (3*t.Vary + uint64(apart)) / 4
	t.Smooth = (7*t.Smooth + uint64(a)) / 8
	p.times = &t
}

func (p *plain) grow(s sent) {
	if !s.asks || p.moment != nil && s.time <= *p.moment {
		return
	}
	if p.threshold == nil || uint64(p.window) < *p.threshold {
		p.window += s.size
	} else {
		p.window += 1200 * s.size / p.window
	}
}

func (p *plain) patience() uint64 {
	t := p.tellTimes()
	greater := t.Smooth
	if t.Latest > greater {
		greater = t.Latest
	}
	if 9*greater/8 < 1 {
		return 1
	}
	return 9 * greater / 8
}

// below: the places of packets on their way below the front.
func (p *plain) below() []int {
	return p.which(func(s sent) bool { return s.state == away && p.front != nil && s.number < *p.front })
}

func (p *plain) losing(now uint64) []uint64 {
	var gone []int
	for _, i := range p.below() {
		if s := p.all[i]; *p.front-s.number >= 3 || s.time+p.patience() <= now {
			gone = append(gone, i)
		}
	}
	var asking []uint64
	for _, i := range gone {
		p.all[i].state = lost
		if p.all[i].asks {
			asking = append(asking, p.all[i].time)
		}
	}
	if len(asking) > 0 && (p.moment == nil || slices.Max(asking) > *p.moment) {
		half := uint64(p.window / 2)
		p.moment, p.threshold, p.window = &now, &half, max(int(half), 2400)
	}
	return p.numbers(gone)
}

func (p *plain) lose(now uint64) ([]uint64, api.Errno) {
	if p.wrongTime(now) {
		return nil, api.ErrArg
	}
	p.told = append(p.told, now)
	return p.losing(now), api.OK
}

func (p *plain) tellTimes() ledger.Times {
	if p.times == nil {
		return ledger.Times{Latest: 0, Smooth: 333, Vary: 166, Least: 0}
	}
	return *p.times
}

func (p *plain) wait() uint64 {
	t := p.tellTimes()
	if 4*t.Vary > 1 {
		return t.Smooth + 4*t.Vary + 25
	}
	return t.Smooth + 1 + 25
}

func (p *plain) away() (sum int) {
	for _, i := range p.which(func(s sent) bool { return s.state == away && s.asks }) {
		sum += p.all[i].size
	}
	return sum
}

func (p *plain) when() (uint64, bool) {
	if len(p.which(func(s sent) bool { return s.state == away && s.asks })) == 0 {
		return 0, false
	}
	var times []uint64
	for _, i := range p.below() {
		times = append(times, p.all[i].time)
	}
	if len(times) > 0 {
		return slices.Min(times) + p.patience(), true
	}
	asking := p.which(func(s sent) bool { return s.asks })
	return p.all[asking[len(asking)-1]].time + p.wait(), true
}

// pair: a ledger, and the same as the chapter's words tell it; each call is made of both.
type pair struct {
	t    *testing.T
	l    *ledger.Ledger
	w    *plain
	told map[uint64]bool // the numbers that were told as got or as lost
}

func newPair(t *testing.T) pair { return pair{t, made(t), newPlain(), map[uint64]bool{}} }

func (c pair) send(number uint64, size int, now uint64, asks bool) {
	c.t.Helper()
	want := c.w.send(number, size, now, asks)
	if e := c.l.Sent(number, size, now, asks); e != want {
		c.t.Fatalf("Sent(%d, %d, %d, %v): %d; want %d", number, size, now, asks, e, want)
	}
	c.same()
}

func (c pair) answer(r []api.Range, delay, now uint64) {
	c.t.Helper()
	got, gone, want := c.w.answer(r, delay, now)
	g, l, e := c.l.Answer(r, delay, now)
	if !slices.Equal(g, got) || !slices.Equal(l, gone) || e != want {
		c.t.Fatalf("Answer(%v, %d, %d): %v, %v, %d; want %v, %v, %d", r, delay, now, g, l, e, got, gone, want)
	}
	c.once(g)
	c.once(l)
	c.same()
}

func (c pair) lose(now uint64) {
	c.t.Helper()
	gone, want := c.w.lose(now)
	l, e := c.l.Lose(now)
	if !slices.Equal(l, gone) || e != want {
		c.t.Fatalf("Lose(%d): %v, %d; want %v, %d", now, l, e, gone, want)
	}
	c.once(l)
	c.same()
}

// once: numbers are rising, and were not told ahead.
func (c pair) once(numbers []uint64) {
	c.t.Helper()
	for i, n := range numbers {
		if c.told[n] || i > 0 && numbers[i-1] >= n {
			c.t.Fatalf("%d is told again, or not rising, in %v", n, numbers)
		}
		c.told[n] = true
	}
}

// same: both tell the same of themselves, and the window is not below 2400.
func (c pair) same() {
	c.t.Helper()
	if c.l.Times() != c.w.tellTimes() || c.l.Wait() != c.w.wait() {
		c.t.Fatalf("times %v, wait %d; want %v, %d", c.l.Times(), c.l.Wait(), c.w.tellTimes(), c.w.wait())
	}
	if c.l.Room() != c.w.window || c.l.Away() != c.w.away() {
		c.t.Fatalf("room %d, away %d; want %d, %d", c.l.Room(), c.l.Away(), c.w.window, c.w.away())
	}
	at, ok := c.l.When()
	if wantAt, wantOK := c.w.when(); at != wantAt || ok != wantOK {
		c.t.Fatalf("when %d, %v; want %d, %v", at, ok, wantAt, wantOK)
	}
	if c.l.Room() < 2400 {
		c.t.Fatalf("the window is %d", c.l.Room())
	}
}
