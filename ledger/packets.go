package ledger

import "iter"

// packet that was sent.
type packet struct {
	number uint64
	size   int
	time   uint64
	asks   bool
}

// put: a packet on its way, behind all others.
func (l *Ledger) put(p packet) {
	l.away = append(l.away, p)
	if p.asks {
		l.asking += p.size
	}
}

// takeOut: goes through the packets on their way with numbers below an end, rising, and takes out those that goes says yes to; it tells each of these. Those behind the end are not touched, so that it takes no longer where there are many of them.
func (l *Ledger) takeOut(end uint64, goes func(packet) bool) iter.Seq[packet] {
	return func(yield func(packet) bool) {
		seen, stay := 0, 0
		for more := true; more && seen < len(l.away) && l.away[seen].number < end; seen++ {
			p := l.away[seen]
			if !goes(p) {
				l.away[stay] = p
				stay++
				continue
			}
			if p.asks {
				l.asking -= p.size
			}
			more = yield(p)
		}
		copy(l.away[seen-stay:seen], l.away[:stay]) // those that stay, up to the ones that were not seen
		l.away = l.away[seen-stay:]
	}
}

// numbers of packets.
func numbers(l []packet) (out []uint64) {
	for _, p := range l {
		out = append(out, p.number)
	}
	return out
}
