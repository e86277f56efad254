package qpack

import (
	"mailcoach/api"
	"mailcoach/table"
)

// putting: a section that is made, and what is told of the table ahead of it.
type putting struct {
	*Encoder
	mayWait bool   // the section may need entries that are not known to have come
	stay    uint64 // the entries from this one on may not go
	needs   needs
	told    []byte
	lines   []line
}

// line of a section: a field that is found whole at a place, or of which the name is found there.
type line struct {
	place place
	whole bool
	field api.Field
}

// place: where a field is found.
type place struct {
	among among
	at    uint64
}

type among uint8

const (
	nowhere among = iota
	amongFixed
	amongEntries
)

// add a field to the section, by as few bytes as what both know allows for.
func (p *putting) add(f api.Field) {
	x := line{place: p.whole(f), whole: true, field: f}
	if x.place.among == nowhere {
		x = line{place: p.name(f.Name, p.reach()), field: f}
	}
	if x.place.among == amongEntries {
		p.need(x.place.at)
	}
	p.lines = append(p.lines, x)
}

// reach: the section may need the entries ahead of this one.
func (p *putting) reach() uint64 {
	if p.mayWait {
		return p.entries.came()
	}
	return p.heard.known
}

// need: the section needs an entry, which may not go therefore.
func (p *putting) need(n uint64) {
	if p.needs.number == 0 {
		p.needs.first = n
	}
	p.needs = needs{first: min(p.needs.first, n), number: max(p.needs.number, n+1)}
	p.stay = min(p.stay, n)
}

// whole: where a field is found that the section may have from there. If none is like it, it comes to the table, for sections to come at least.
func (p *putting) whole(f api.Field) place {
	if at, _ := table.Find(f); at >= 0 {
		return place{among: amongFixed, at: uint64(at)}
	}
	n, ok := p.entries.last(p.entries.came(), func(g api.Field) bool { return g == f })
	if !ok {
		n, ok = p.entries.came(), p.come(f)
	}
	if !ok || n >= p.reach() {
		return place{}
	}
	return place{among: amongEntries, at: n}
}

// name: where a name is found, among the entries ahead of end if it is not a fixed field's.
func (p *putting) name(name string, end uint64) place {
	if _, at := table.Find(api.Field{Name: name}); at >= 0 {
		return place{among: amongFixed, at: uint64(at)}
	}
	n, ok := p.entries.last(end, func(g api.Field) bool { return g.Name == name })
	if !ok {
		return place{}
	}
	return place{among: amongEntries, at: n}
}

// come: a field comes to the table, if there is room for it.
func (p *putting) come(f api.Field) bool {
	if !p.entries.fits(f, p.stay) {
		return false
	}
	if !p.roomTold {
		p.told = append(p.told, laid(roomIs, 5, uint64(p.entries.room))...)
		p.roomTold = true
	}
	came := p.entries.came()
	switch x := p.name(f.Name, came); x.among {
	case amongFixed:
		p.told = append(p.told, laid(namedComes|fixedComes, 6, x.at)...)
	case amongEntries:
		p.told = append(p.told, laid(namedComes, 6, came-1-x.at)...)
	default:
		p.told = append(p.told, laidText(spelledComes, 6, f.Name)...)
	}
	p.told = append(p.told, laidText(0, 8, f.Value)...)
	return p.entries.table.Add(f) == api.OK
}

// section: its bytes. The base is the number of entries that must have come, so that all that it needs is behind it.
func (p *putting) section() []byte {
	told := uint64(0)
	if p.needs.number > 0 {
		told = p.needs.number%round(p.entries.room) + 1
	}
	b := append(laid(0, 8, told), laid(0, 7, 0)...)
	for _, x := range p.lines {
		b = append(b, x.bytes(p.needs.number)...)
	}
	return b
}

// bytes of a line of a section with that base.
func (x line) bytes(base uint64) []byte {
	if x.whole {
		if x.place.among == amongFixed {
			return laid(whole|fixedWhole, 6, x.place.at)
		}
		return laid(whole, 6, base-1-x.place.at)
	}
	var name []byte
	switch x.place.among {
	case amongFixed:
		name = laid(named|fixedNamed, 4, x.place.at)
	case amongEntries:
		name = laid(named, 4, base-1-x.place.at)
	default:
		name = laidText(spelled, 4, x.field.Name)
	}
	return append(name, laidText(0, 8, x.field.Value)...)
}
