package qpack_test

import (
	"bytes"
	"fmt"
	"math/rand"
	"slices"
	"sync"
	"testing"

	"mailcoach/api"
	"mailcoach/qpack"
)

// twins: a decoder, and one by the chapter's words, that must answer alike.
type twins struct {
	dec   *qpack.Decoder
	words *plain
}

func newTwins(t *testing.T, room, waits int) twins {
	t.Helper()
	return twins{dec: newDecoder(t, room, waits), words: newPlain(room, waits)}
}

func (x twins) table(t *testing.T, b []byte) {
	t.Helper()
	n, e := x.dec.Table(b)
	if want, f := x.words.table(b); n != want || e != f {
		t.Fatalf("Table(%x): %d, error %d, not %d, error %d", b, n, e, want, f)
	}
}

func (x twins) get(t *testing.T, id uint64, section []byte) {
	t.Helper()
	l, e := x.dec.Get(id, section)
	if want, f := x.words.get(id, section); !slices.Equal(l, want) || e != f {
		t.Fatalf("Get(%d, %x): %q, error %d, not %q, error %d", id, section, l, e, want, f)
	}
}

func (x twins) say(t *testing.T) {
	t.Helper()
	b := x.dec.Say()
	if want := x.words.saying(); !bytes.Equal(b, want) {
		t.Fatalf("Say: %x, not %x", b, want)
	}
}

func (x twins) cancel(t *testing.T, id uint64) {
	t.Helper()
	e := x.dec.Cancel(id)
	if want := x.words.cancel(id); e != want {
		t.Fatalf("Cancel(%d): error %d, not %d", id, e, want)
	}
}

// someNumber in so many bits: a small one mostly.
func someNumber(r *rand.Rand, first byte, bits int) []byte {
	switch r.Intn(12) {
	case 0:
		return number(first, bits, []uint64{62, 63, 64, 97, 98, 99, 127, 128, 255, 256, 1 << 32, api.MaxNumber}[r.Intn(12)])
	case 1:
		return number(first, bits, uint64(r.Intn(300)))
	}
	return number(first, bits, uint64(r.Intn(6)))
}

// someTold: a text in either way.
func someTold(r *rand.Rand, first byte, bits int) []byte {
	if r.Intn(2) == 0 {
		return few(first, bits, someText(r))
	}
	return plainly(first, bits, someText(r))
}

// someInstruction, and someLine: most of them may be.
func someInstruction(r *rand.Rand, room int) []byte {
	switch r.Intn(10) {
	case 0:
		return roomFor(uint64(r.Intn(room + 2)))
	case 1:
		return number(0xc0, 6, uint64(r.Intn(100)))
	case 2, 3:
		return all(someNumber(r, 0x80, 6), someTold(r, 0, 8))
	case 4:
		return all(number(0xc0, 6, uint64(r.Intn(100))), someTold(r, 0, 8))
	case 5, 6:
		return someNumber(r, 0, 5)
	}
	return all(someTold(r, 0x40, 6), someTold(r, 0, 8))
}

func someLine(r *rand.Rand) []byte {
	n := byte(r.Intn(2))
	switch r.Intn(7) {
	case 0:
		return number(0xc0, 6, uint64(r.Intn(100)))
	case 1:
		return all(number(0x50|n<<5, 4, uint64(r.Intn(100))), someTold(r, 0, 8))
	case 2:
		return all(someTold(r, 0x20|n<<4, 4), someTold(r, 0, 8))
	case 3:
		return someNumber(r, 0x80, 6)
	case 4:
		return someNumber(r, 0x10, 4)
	case 5:
		return all(someNumber(r, 0x40|n<<5, 4), someTold(r, 0, 8))
	}
	return all(someNumber(r, n<<3, 3), someTold(r, 0, 8))
}

// someSection: with a number near what came.
func someSection(r *rand.Rand, p *plain) []byte {
	var b []byte
	if f := 2 * (p.most / 32); f > 0 && r.Intn(5) > 0 {
		must := max(0, len(p.all)-r.Intn(4)+r.Intn(3))
		b = number(0, 8, uint64(must%f+1))
	} else {
		b = someNumber(r, 0, 8)
	}
	b = append(b, someNumber(r, byte(r.Intn(2))<<7, 7)...)
	for range r.Intn(5) {
		b = append(b, someLine(r)...)
	}
	return b
}

// spoil bytes, sometimes: one is another one, or the last ones are not there.
func spoil(r *rand.Rand, b []byte) []byte {
	if len(b) == 0 {
		return b
	}
	switch r.Intn(12) {
	case 0:
		b[r.Intn(len(b))] = byte(r.Intn(256))
	case 1:
		return b[:r.Intn(len(b))]
	}
	return b
}

// P20.4, P20.5, P20.6: very many instructions, sections and sayings, most of which may be, against the chapter's words.
func TestRandom(t *testing.T) {
	for seed := range int64(400) {
		r := rand.New(rand.NewSource(seed))
		room := []int{0, 31, 32, 33, 64, 70, 100, 220, 1000, 4096}[r.Intn(10)]
		x := newTwins(t, room, []int{0, 1, 2, 64}[r.Intn(4)])
		x.table(t, roomFor(uint64(room)))
		for range 300 {
			switch n := r.Intn(10); {
			case n < 4:
				var b []byte
				for range r.Intn(4) {
					b = append(b, someInstruction(r, room)...)
				}
				x.table(t, spoil(r, b))
			case n < 8:
				x.get(t, uint64(r.Intn(5)), spoil(r, someSection(r, x.words)))
			case n < 9:
				x.cancel(t, uint64(r.Intn(5)))
			default:
				x.say(t)
			}
		}
		x.say(t)
	}
}

// P20.4, P20.5: any bytes at all.
func TestRandomBytes(t *testing.T) {
	for seed := range int64(3000) {
		r := rand.New(rand.NewSource(seed))
		x := newTwins(t, r.Intn(4097), r.Intn(65))
		b := make([]byte, r.Intn(30))
		for range 20 {
			r.Read(b)
			x.table(t, b)
			x.get(t, uint64(r.Intn(3)), b)
			if len(b) > 1 {
				b[0], b[1] = 0, 0
			}
			x.get(t, 0, b)
		}
		x.say(t)
	}
}

// R4: what Table and Get were handed is theirs no more; what Get and Say answer is nobody else's.
func TestDecoderMemory(t *testing.T) {
	d := newDecoder(t, 4096, 1)
	b := all(roomFor(4096), comes("name", "value"), comes("other", "text"))
	done(t, d, b, len(b))
	scribble(b)
	section := all([]byte{3, 0, 0x80, 0x81, 0x41}, plainly(0, 8, "plain"), plainly(0x20, 4, "own"), plainly(0, 8, "way"))
	want := []api.Field{field("other", "text"), field("name", "value"), field("name", "plain"), field("own", "way")}
	was := slices.Clone(section)
	first, e := d.Get(0, section)
	if e != api.OK || !slices.Equal(first, want) || !bytes.Equal(section, was) {
		t.Fatalf("Get: %q, error %d", first, e)
	}
	scribble(section)
	if !slices.Equal(first, want) {
		t.Fatalf("the answer changed with the section: %q", first)
	}
	said := d.Say()
	scribbleFields(first)
	again, e := d.Get(4, was)
	if e != api.OK || !slices.Equal(again, want) {
		t.Fatalf("Get again: %q, error %d", again, e)
	}
	other := d.Say()
	if !bytes.Equal(said, []byte{0x80}) || !bytes.Equal(other, []byte{0x84}) {
		t.Fatalf("Say: %x, %x", said, other)
	}
	scribble(said)
	cancels(t, d, 8)
	if !bytes.Equal(other, []byte{0x84}) {
		t.Fatalf("Say's answer changed: %x", other)
	}
	scribble(other)
	says(t, d, "48")
}

// R5: decoders and encoders share nothing, so that many may be asked at once.
func TestAtOnce(t *testing.T) {
	run := func(seed int64) string {
		r := rand.New(rand.NewSource(seed))
		e, _ := qpack.NewEncoder(200, 2)
		d, _ := qpack.NewDecoder(200, 2)
		var log bytes.Buffer
		for i := range 100 {
			told, made, f := e.Put(uint64(i%5), someFields(r, 5))
			n, g := d.Table(told)
			l, h := d.Get(uint64(i%5), made)
			s := d.Say()
			m, k := e.Hear(s)
			fmt.Fprintln(&log, told, made, f, n, g, l, h, s, m, k)
		}
		return log.String()
	}
	want := []string{run(0), run(1), run(2), run(3)}
	var all sync.WaitGroup
	got := make([]string, 16)
	for i := range got {
		all.Go(func() { got[i] = run(int64(i % 4)) })
	}
	all.Wait()
	for i, s := range got {
		if s != want[i%4] {
			t.Fatalf("%d: another answer", i)
		}
	}
}

// FuzzDecoder: P20.4, P20.5, P20.6: bytes say what is called, with what.
func FuzzDecoder(f *testing.F) {
	f.Add(220, 9, []byte("\x04\x3f\xbd\x01\x40\x01"), []byte("\x02\x80\x10"))
	f.Add(64, 1, []byte("\x3f\x21\x40\x00\x40\x00\x01\x00"), []byte("\x03\x01\x80\x11\x00\x00"))
	f.Add(4096, 0, []byte("\x3f\xe1\x1f\x41a\x01b\x80\x82\x0f\x0f"), []byte("\x03\x80\x10\x41\x00\x07\x00\x00"))
	f.Fuzz(func(t *testing.T, room, waits int, told, section []byte) {
		if room < 0 || room > api.MaxTable || waits < 0 || waits > api.MaxStreams || len(told)+len(section) > 5000 {
			return
		}
		x := newTwins(t, room, waits)
		for cut := range min(len(told), 20) {
			x.table(t, told[:cut])
		}
		x.get(t, 0, section)
		x.table(t, told)
		x.get(t, 4, section)
		x.get(t, 0, section)
		x.table(t, told)
		x.say(t)
		for cut := range min(len(section), 20) {
			x.get(t, 8, section[:cut])
		}
		x.cancel(t, 0)
		x.get(t, 0, section)
		x.say(t)
	})
}

// FuzzEncoder: P20.2, P20.3: bytes say which fields are put, and what is said.
func FuzzEncoder(f *testing.F) {
	f.Add(220, 2, []byte("\x00\x01\x02\x03"), []byte("\x80\x01\x44"))
	f.Add(38, 1, []byte("\x05\x05\x06\x00\x07"), []byte("\x01\x80\x80"))
	f.Fuzz(func(t *testing.T, room, waits int, put, said []byte) {
		if room < 0 || room > api.MaxTable || waits < 0 || waits > api.MaxStreams || len(put) > 500 {
			return
		}
		w := newWatch(t, room, waits)
		for i, x := range put {
			l := []api.Field{mine(int(x & 15)), lone(int(x >> 4)), field(":path", string(rune(x)))}
			w.put(t, uint64(x&3), l[:1+i%3])
			if len(said) > 0 {
				n := 1 + int(said[0]&3)
				w.hear(t, said[:min(n, len(said))])
				said = said[min(n, len(said)):]
			}
		}
		w.hear(t, said)
	})
}
