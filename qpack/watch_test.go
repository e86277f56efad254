package qpack_test

import (
	"maps"
	"slices"
	"testing"

	"mailcoach/api"
	"mailcoach/qpack"
)

// section: one that was put and not told as got; what it needs of the table.
type section struct {
	number int
	needs  []int
}

// watch: an encoder whose every answer is held against the chapter's words: what all instructions make of a table, and what the decoder said.
type watch struct {
	*qpack.Encoder
	waits   int
	table   *plain
	known   int                  // so many entries were said to have come
	left    map[uint64][]section // sections of a stream that were not said to be got
	counted map[uint64]int       // streams of which a section might have had to wait
}

func newWatch(t *testing.T, room, waits int) *watch {
	t.Helper()
	return &watch{Encoder: newEncoder(t, room, waits), waits: waits, table: newPlain(room, waits), left: map[uint64][]section{}, counted: map[uint64]int{}}
}

// put: P20.2: fields that may be put.
func (w *watch) put(t *testing.T, id uint64, l []api.Field) (told, made []byte) {
	t.Helper()
	was := slices.Clone(l)
	told, made, f := w.Put(id, l)
	if f != api.OK {
		t.Fatalf("Put(%d, %q): error %d", id, l, f)
	}
	if !slices.Equal(l, was) {
		t.Fatalf("Put changed what it was handed: %q, %q", was, l)
	}
	if n, e := w.table.table(told); n != len(told) || e != api.OK {
		t.Fatalf("Put: of %x for the table %d are whole, error %d", told, n, e)
	}
	x := w.table.look(made)
	if x.e != api.OK || !slices.Equal(x.fields, l) {
		t.Fatalf("Put(%d, %q): %x tells %q, error %d", id, l, made, x.fields, x.e)
	}
	if (x.number > 0) != (len(x.needs) > 0) || x.number > 0 && made[0] == 0 {
		t.Fatalf("Put: %x says that %d entries must have come; needed are %v", made, x.number, x.needs)
	}
	w.anyTime(t, made, x.number)
	if x.number > 0 {
		w.left[id] = append(w.left[id], section{number: x.number, needs: x.needs})
	}
	if x.number > w.known {
		w.counted[id] = 1
	}
	w.holds(t)
	return told, made
}

// anyTime: whatever came of what the decoder was not heard to have yet, the section's number is the same.
func (w *watch) anyTime(t *testing.T, made []byte, number int) {
	t.Helper()
	if number == 0 {
		return
	}
	r := plainReader{b: made}
	told := r.number(8)
	for came := w.known; came <= len(w.table.all); came++ {
		if n, ok := need(told, w.table.most, came); n != number || !ok {
			t.Fatalf("the section's number is %d; when %d came, of which %d are known, %d tells %d", number, came, w.known, told, n)
		}
	}
}

// holds: no more streams than may wait; no entry went that is needed.
func (w *watch) holds(t *testing.T) {
	t.Helper()
	if len(w.counted) > w.waits {
		t.Fatalf("%d streams may have to wait, of %d", len(w.counted), w.waits)
	}
	for id, l := range w.left {
		for _, x := range l {
			if least := slices.Min(x.needs); least < w.table.gone {
				t.Fatalf("%d went; a section of %d that was not got needs %d", w.table.gone, id, least)
			}
		}
	}
}

// hear: P20.3: what the decoder says, whatever it is.
func (w *watch) hear(t *testing.T, b []byte) (int, api.Errno) {
	t.Helper()
	want, e := w.listen(b)
	if n, f := w.Hear(b); n != want || f != e {
		t.Fatalf("Hear(%x): %d, error %d, not %d, error %d", b, n, f, want, e)
	}
	return want, e
}

// listen: what is said is heard by the chapter's words.
func (w *watch) listen(b []byte) (int, api.Errno) {
	was := *w
	was.left, was.counted = maps.Clone(w.left), maps.Clone(w.counted)
	rest := b
	for len(rest) > 0 {
		r := plainReader{b: rest}
		e := w.said(&r)
		if e == api.ErrShort {
			break
		}
		if e != api.OK {
			*w = was
			return 0, e
		}
		rest = r.b
	}
	return len(b) - len(rest), api.OK
}

// said: one thing that the decoder said.
func (w *watch) said(r *plainReader) api.Errno {
	switch b := r.bits(); {
	case b[0] == '1':
		id := r.number(7)
		if r.e != api.OK {
			return r.e
		}
		if len(w.left[id]) == 0 {
			return api.ErrForm
		}
		w.known = max(w.known, w.left[id][0].number)
		w.left[id] = w.left[id][1:]
		if len(w.left[id]) == 0 {
			delete(w.left, id)
			delete(w.counted, id)
		}
	case b[1] == '1':
		id := r.number(6)
		if r.e != api.OK {
			return r.e
		}
		delete(w.left, id)
		delete(w.counted, id)
	default:
		n := r.number(6)
		if r.e != api.OK {
			return r.e
		}
		if n == 0 || n > uint64(len(w.table.all)-w.known) {
			return api.ErrForm
		}
		w.known += int(n)
	}
	return api.OK
}
