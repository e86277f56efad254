package ledger

// Times are what was measured of the way there and back.
type Times struct{ Latest, Smooth, Vary, Least uint64 }

const leastWait = 25 // what is waited for beyond the times that were measured

// unmeasured: what is taken for the times till the first is measured.
func unmeasured() Times { return Times{Smooth: 333, Vary: 166} }

// measure: a time there and back; delay: so much of it the other end kept the answer, as it says.
func (l *Ledger) measure(latest, delay uint64) {
	if l.measured {
		l.times = l.times.with(latest, delay)
	} else {
		l.times = Times{Latest: latest, Smooth: latest, Vary: latest / 2, Least: latest}
	}
	l.measured = true
}

// with: the times, when one more was measured.
func (t Times) with(latest, delay uint64) Times {
	t.Latest = latest
	t.Least = min(t.Least, latest)
	a := latest
	if latest >= t.Least+delay { // else the delay is not believed: no way is shorter than the least
		a -= delay
	}
	t.Vary = (3*t.Vary + between(t.Smooth, a)) / 4
	t.Smooth = (7*t.Smooth + a) / 8
	return t
}

// patience: how long a packet below the front may be on its way.
func (t Times) patience() uint64 { return max(9*max(t.Smooth, t.Latest)/8, 1) }

// wait: how long to wait for an answer.
func (t Times) wait() uint64 { return t.Smooth + max(4*t.Vary, 1) + leastWait }

// whole numbers, of any type.
type whole interface {
	~int | ~int8 | ~int16 | ~int32 | ~int64 | ~uint | ~uint8 | ~uint16 | ~uint32 | ~uint64
}

// between: how much is between two numbers, whichever is the greater one.
func between[N whole](a, b N) N { return max(a, b) - min(a, b) }
