package qpack

import (
	"maps"

	"mailcoach/api"
)

// needs of a section: the first entry that it needs, and how many must have come.
type needs struct {
	first, number uint64
}

// stream: what its sections need of which the decoder did not say that they were got, the eldest one first; and whether one of its sections might have had to wait, since all were got.
type stream struct {
	left  []needs
	waits bool
}

// heard: how things stand by what the decoder said: so many of the entries that were told to it came; streams have sections left, and so many of them might have to wait.
type heard struct {
	told    uint64
	known   uint64
	streams map[uint64]stream
	waiting int
}

// sayings of the decoder by their first bits.
func sayings() []row[*heard] {
	return []row[*heard]{
		{first: sectionGot, bits: 7, do: (*heard).isGot},
		{first: notLookedAt, bits: 6, do: (*heard).isLeft},
		{first: moreHaveCome, bits: 6, do: (*heard).moreCame},
	}
}

// twin: one of its own, which stays as it is when this one is changed.
func (h *heard) twin(told uint64) heard {
	return heard{told: told, known: h.known, streams: maps.Clone(h.streams), waiting: h.waiting}
}

// isGot: a section of a stream was got, the eldest one that is left.
func (h *heard) isGot(r *reader) api.Errno {
	_, id := r.number(7)
	if r.e != api.OK {
		return r.e
	}
	s := h.streams[id]
	if len(s.left) == 0 {
		return api.ErrForm
	}
	h.known = max(h.known, s.left[0].number)
	s.left = s.left[1:]
	h.streams[id] = s
	if len(s.left) == 0 {
		h.forget(id)
	}
	return api.OK
}

// isLeft: a stream's sections are not looked at.
func (h *heard) isLeft(r *reader) api.Errno {
	_, id := r.number(6)
	if r.e != api.OK {
		return r.e
	}
	h.forget(id)
	return api.OK
}

// moreCame: so many more entries came.
func (h *heard) moreCame(r *reader) api.Errno {
	_, n := r.number(6)
	if r.e != api.OK {
		return r.e
	}
	if n == 0 || n > h.told-h.known {
		return api.ErrForm
	}
	h.known += n
	return api.OK
}

// forget a stream of which no section is left.
func (h *heard) forget(id uint64) {
	if h.streams[id].waits {
		h.waiting--
	}
	delete(h.streams, id)
}

// mayWait: may a section of a stream need entries that are not known to have come, where so many streams may wait?
func (h *heard) mayWait(id uint64, waits int) bool {
	return h.streams[id].waits || h.waiting < waits
}

// note what a stream's section needs.
func (h *heard) note(id uint64, n needs) {
	s := h.streams[id]
	if n.number > h.known && !s.waits {
		s.waits = true
		h.waiting++
	}
	s.left = append(s.left, n)
	h.streams[id] = s
}

// staying: the entries from this one on may not go, as a section that is left needs it, or as it is not known to have come. (The latter keeps the encoder from being so far ahead that the numbers which a section can tell do not reach.)
func (h *heard) staying() uint64 {
	n := h.known
	for _, s := range h.streams {
		for _, x := range s.left {
			n = min(n, x.first)
		}
	}
	return n
}
