package conn

import (
	"math/rand/v2"
	"slices"
	"testing"

	"mailcoach/api"
	"mailcoach/frame"
	"mailcoach/hello"
	"mailcoach/keys"
	"mailcoach/packet"
	"mailcoach/ranges"
)

// These tests look at what packets hold, and let an end send what none sends by itself.

// insider: two ends, and all that one looks at.
type insider struct {
	t    *testing.T
	ends [2]*Conn
	now  uint64
	used map[string]bool // keys and numbers of packets that were sent
}

// newInsider: nobody greeted yet; the first end is the client's.
func newInsider(t *testing.T, limits [4]uint64) *insider {
	t.Helper()
	w := &insider{t: t, used: map[string]bool{}}
	for i := range w.ends {
		c, e := New(Config{Client: i == 0, Shared: []byte("shared"), Nonce: [32]byte{byte(i)}, Limits: limits, Idle: 200000}, 0)
		if e != api.OK {
			t.Fatal("New:", e)
		}
		w.ends[i] = c
	}
	return w
}

// ready: they greeted, and nothing is left to be sent.
func (w *insider) ready() *insider {
	w.t.Helper()
	w.goes()
	if !w.ends[0].ready || !w.ends[1].ready {
		w.t.Fatal("not ready")
	}
	return w
}

// goes: both send, till there is nothing.
func (w *insider) goes() {
	w.t.Helper()
	for sent := 1; sent > 0; {
		sent = 0
		for i := range w.ends {
			l := w.sends(i)
			sent += len(l)
			for _, b := range l {
				w.comes(1-i, b)
			}
		}
	}
}

// sends: what the end i sends; what it holds is looked at.
func (w *insider) sends(i int) [][]byte {
	w.t.Helper()
	l, e := w.ends[i].Send(w.now)
	if e != api.OK {
		w.t.Fatal("Send:", e)
	}
	for _, b := range l {
		w.looks(i, b)
	}
	return l
}

func (w *insider) comes(i int, b []byte) bool {
	w.t.Helper()
	taken, e := w.ends[i].Come(b, w.now)
	if e != api.OK {
		w.t.Fatal("Come:", e)
	}
	return taken
}

// opened: a datagram that the end i sent: its header, its frames.
func (w *insider) opened(i int, b []byte) (api.Header, []api.Frame) {
	w.t.Helper()
	k := w.ends[i].short.out
	if b[0]&0x80 != 0 {
		k = w.ends[i].long.out
	}
	h, payload, size, e := packet.Open(b, 0, k, int64(w.ends[i].number)-1)
	if e != api.OK || size != len(b) {
		w.t.Fatalf("end %d: %x: %d, %d bytes of %d", i, b, e, size, len(b))
	}
	l, e := frame.Get(payload)
	if e != api.OK {
		w.t.Fatalf("end %d: frames: %d", i, e)
	}
	return h, l
}

// The words: the greeting goes in frames FrCrypto of long packets, all else in others (but what is told of an end, as long as the others can't be opened there); numbers are never used twice with one key.
func (w *insider) looks(i int, b []byte) {
	w.t.Helper()
	h, l := w.opened(i, b)
	k := w.ends[i].short.out
	if h.Long {
		k = w.ends[i].long.out
	}
	key := string(k.Key) + "/" + string(k.IV) + "/" + string(rune(h.Number))
	if w.used[key] {
		w.t.Errorf("end %d: the number %d is used twice with one key", i, h.Number)
	}
	w.used[key] = true
	for _, f := range l {
		if h.Long != (f.Kind == api.FrCrypto) && (f.Kind != api.FrClose || h.Long == w.ends[i].ready) {
			w.t.Errorf("end %d: a frame %v, long: %v", i, f, h.Long)
		}
	}
	if len(l) == 0 {
		w.t.Errorf("end %d: a packet of nothing", i)
	}
}

// sendsThat: the end i sends a packet of frames, as if it had made them up; nothing of them is sent again.
func (w *insider) sendsThat(i int, long bool, l ...api.Frame) []byte {
	w.t.Helper()
	b := w.ends[i].packet(l, long)
	if b == nil {
		w.t.Fatalf("no packet of %v", l)
	}
	return b
}

// P18.6, the words: what the other one may not do ends the end, with a code that both know then; it is a packet that was taken.
func TestMisdeeds(t *testing.T) {
	most := uint64(api.MaxNumber)
	data := func(n int) []byte { return make([]byte, n) }
	limits := [4]uint64{1500, 1000, 2, 1}
	for name, l := range map[string][]api.Frame{
		"more than a stream's credit":               {{Kind: api.FrStream, Stream: 0, Data: data(1001)}},
		"an end behind it":                          {{Kind: api.FrStream, Stream: 0, Offset: 1001, Fin: true}},
		"far behind it":                             {{Kind: api.FrStream, Stream: 0, Offset: most}},
		"more than that of all":                     {{Kind: api.FrStream, Stream: 0, Data: data(1000)}, {Kind: api.FrStream, Stream: 4, Offset: 500, Data: data(1)}},
		"a stream too many":                         {{Kind: api.FrStream, Stream: 8, Data: data(1)}},
		"far too many":                              {{Kind: api.FrStream, Stream: most - 3}},
		"one of one way too many":                   {{Kind: api.FrStream, Stream: 6}},
		"one that goes the other way":               {{Kind: api.FrStream, Stream: 3, Data: data(1)}},
		"one that this end did not open":            {{Kind: api.FrStream, Stream: 1, Data: data(1)}},
		"credit of such a one":                      {{Kind: api.FrMaxStreamData, Stream: 1, Limit: 5}},
		"credit of one that comes":                  {{Kind: api.FrMaxStreamData, Stream: 2, Limit: 5}},
		"credit of one too many":                    {{Kind: api.FrMaxStreamData, Stream: 8, Limit: 5}},
		"bytes behind the end":                      {{Kind: api.FrStream, Stream: 0, Data: data(3), Fin: true}, {Kind: api.FrStream, Stream: 0, Offset: 3, Data: data(1)}},
		"another end":                               {{Kind: api.FrStream, Stream: 0, Data: data(3), Fin: true}, {Kind: api.FrStream, Stream: 0, Offset: 1, Data: data(1), Fin: true}},
		"an end ahead of what came":                 {{Kind: api.FrStream, Stream: 2, Data: data(3)}, {Kind: api.FrStream, Stream: 2, Fin: true}},
		"an answer to what was not sent":            {{Kind: api.FrAck, Ranges: []api.Range{{From: 1000, To: 1000}}}},
		"an answer to more than was sent":           {{Kind: api.FrAck, Ranges: []api.Range{{From: 0, To: most}}}},
		"an answer that took longer than time goes": {{Kind: api.FrAck, Ranges: []api.Range{{From: 0, To: 0}}, Limit: api.MaxTime + 1}},
		"the greeting":                              {{Kind: api.FrCrypto, Data: data(1)}},
		"no kind that there is a use for":           {{Kind: api.FrReset}},
		"another one":                               {{Kind: api.FrStop}},
		"one more":                                  {{Kind: api.FrDataBlocked}},
		"and one more":                              {{Kind: api.FrStreamBlocked}},
		"the last one":                              {{Kind: api.FrDone}},
	} {
		w := newInsider(t, limits).ready()
		s := w.ends[1]
		if !w.comes(1, w.sendsThat(0, false, l...)) {
			t.Errorf("%s: it was not taken", name)
		}
		code, over := s.Ended()
		if !over || code == 0 {
			t.Errorf("%s: %d, %v", name, code, over)
		}
		if _, e := s.Open(true); e != api.ErrEnd {
			t.Errorf("%s: Open: %d", name, e)
		}
		w.goes()
		if told, over := w.ends[0].Ended(); told != code || !over {
			t.Errorf("%s: the other end has ended: %d, %v", name, told, over)
		}
	}
}

// P18.6, the words: bytes of a stream that goes the other way, though it's there.
func TestOwnOneWay(t *testing.T) {
	w := newInsider(t, [4]uint64{9, 9, 9, 9}).ready()
	id, _ := w.ends[1].Open(true)
	w.goes()
	w.comes(1, w.sendsThat(0, false, api.Frame{Kind: api.FrMaxStreamData, Stream: id, Limit: 9}))
	if _, over := w.ends[1].Ended(); over {
		t.Error("credit of a stream that goes out")
	}
	w.comes(1, w.sendsThat(0, false, api.Frame{Kind: api.FrStream, Stream: id}))
	if _, over := w.ends[1].Ended(); !over {
		t.Error("a stream of one way goes the other way")
	}
}

// P18.6, the words: what just may be ends nothing.
func TestJustMayBe(t *testing.T) {
	data := func(n int) []byte { return make([]byte, n) }
	limits := [4]uint64{1500, 1000, 2, 1}
	for name, l := range map[string][]api.Frame{
		"all of the credit":           {{Kind: api.FrStream, Stream: 0, Data: data(1000)}, {Kind: api.FrStream, Stream: 4, Offset: 499, Data: data(1)}},
		"the end at it":               {{Kind: api.FrStream, Stream: 0, Offset: 1000, Fin: true}, {Kind: api.FrStream, Stream: 2, Offset: 500, Fin: true}},
		"the last streams":            {{Kind: api.FrStream, Stream: 4}, {Kind: api.FrStream, Stream: 2}},
		"bytes that come twice":       {{Kind: api.FrStream, Stream: 0, Data: data(500)}, {Kind: api.FrStream, Stream: 0, Offset: 9, Data: data(400)}, {Kind: api.FrStream, Stream: 4, Offset: 999, Data: data(1)}},
		"the end twice":               {{Kind: api.FrStream, Stream: 0, Data: data(3), Fin: true}, {Kind: api.FrStream, Stream: 0, Offset: 3, Fin: true}},
		"less credit than there was":  {{Kind: api.FrMaxData, Limit: 1}, {Kind: api.FrMaxStreams, Limit: 0}, {Kind: api.FrMaxStreamData, Stream: 0, Limit: 1}},
		"as much as may be":           {{Kind: api.FrMaxData, Limit: api.MaxNumber}, {Kind: api.FrMaxStreams, Limit: 1 << 60, Fin: true}, {Kind: api.FrMaxStreamData, Stream: 4, Limit: api.MaxNumber}},
		"what says nothing":           {{Kind: api.FrPing}, {Kind: api.FrPadding, Limit: 900}},
		"an answer that came already": {{Kind: api.FrAck, Ranges: []api.Range{{From: 0, To: 0}}, Limit: api.MaxTime}},
	} {
		w := newInsider(t, limits).ready()
		if !w.comes(1, w.sendsThat(0, false, l...)) {
			t.Errorf("%s: it was not taken", name)
		}
		if code, over := w.ends[1].Ended(); over {
			t.Errorf("%s: %d", name, code)
		}
		w.goes()
		if code, over := w.ends[0].Ended(); over {
			t.Errorf("%s: %d", name, code)
		}
	}
}

// The words: in long packets stands the greeting alone, or that the end has ended.
func TestMisdeedsInLongPackets(t *testing.T) {
	for _, f := range []api.Frame{{Kind: api.FrPing}, {Kind: api.FrAck, Ranges: []api.Range{{}}}, {Kind: api.FrStream}, {Kind: api.FrMaxData}, {Kind: api.FrMaxStreamData}, {Kind: api.FrMaxStreams}, {Kind: api.FrDone}} {
		for i := range 2 {
			w := newInsider(t, [4]uint64{9, 9, 9, 9}).ready()
			if !w.comes(i, w.sendsThat(1-i, true, f)) {
				t.Errorf("%v was not taken", f)
			}
			if _, over := w.ends[i].Ended(); !over {
				t.Errorf("%v in a long packet", f)
			}
		}
	}
	w := newInsider(t, [4]uint64{9, 9, 9, 9}).ready()
	w.comes(0, w.sendsThat(1, true, api.Frame{Kind: api.FrPadding, Limit: 3}))
	w.comes(1, w.sendsThat(0, true, api.Frame{Kind: api.FrClose, Code: 5}))
	if _, over := w.ends[0].Ended(); over {
		t.Error("a FrPadding in a long packet")
	}
	if code, over := w.ends[1].Ended(); code != 5 || !over {
		t.Error("a FrClose in a long packet:", code, over)
	}
}

// P18.6, the words: bytes that are no frames.
func TestNoFrames(t *testing.T) {
	for _, payload := range [][]byte{{3}, {0x1f, 0, 0}, {8}, {6, 0, 5, 1}} {
		w := newInsider(t, [4]uint64{9, 9, 9, 9}).ready()
		c := w.ends[0]
		b, e := packet.Seal(api.Header{Number: c.number}, 4, payload, c.short.out)
		if e != api.OK || !w.comes(1, b) {
			t.Error("not taken:", e)
		}
		if _, over := w.ends[1].Ended(); !over {
			t.Errorf("%x: it goes on", payload)
		}
	}
}

// P18.6, the words: a wrong proof, of a client and of a server; greetings that are not awaited, or are none; more bytes than they have.
func TestGreetings(t *testing.T) {
	greets := func(name string, w *insider, i int, f api.Frame, over bool) {
		t.Helper()
		f.Kind = api.FrCrypto
		if !w.comes(i, w.sendsThat(1-i, true, f)) {
			t.Errorf("%s: it was not taken", name)
		}
		if _, is := w.ends[i].Ended(); is != over {
			t.Errorf("%s: %v", name, is)
		}
		if over && w.ends[i].ready {
			t.Errorf("%s: it is ready", name)
		}
	}
	put := func(h hello.Hello) []byte {
		b, e := hello.Put(h)
		if e != api.OK {
			t.Fatal("Put:", e)
		}
		return b
	}
	// half: the server was greeted, and its greeting did not come.
	half := func() (*insider, []byte, []byte) {
		w := newInsider(t, [4]uint64{9, 9, 9, 9})
		w.comes(1, w.sends(0)[0])
		_, l := w.opened(1, w.sends(1)[0])
		finish := put(hello.Hello{Kind: hello.Finish, Proof: w.ends[1].finish})
		return w, l[0].Data, finish
	}
	for i := range 33 {
		w, server, finish := half()
		server[len(server)-1-i%32] ^= 1 << (i % 8)
		greets("a server's wrong proof", w, 0, api.Frame{Data: server}, true)
		finish[1+i%32] ^= 0x80 >> (i % 8)
		greets("a client's wrong proof", w, 1, api.Frame{Offset: uint64(len(w.ends[0].own)), Data: finish}, true)
	}
	w, server, finish := half()
	server[1] ^= 1
	greets("a server's other nonce", w, 0, api.Frame{Data: server}, true)
	w, server, _ = half()
	server[33]++
	greets("a server's other limit", w, 0, api.Frame{Data: server}, true)
	for name, b := range map[string][]byte{"a finish": finish, "a client's": newInsider(t, [4]uint64{}).ends[0].own, "none": {0}, "none either": {4, 1}, "a limit in too many bytes": append(make([]byte, 33), 0x40, 1)} {
		if b[0] == 0 && len(b) > 1 {
			b[0] = 2
			b = append(b, make([]byte, 40)...)
		}
		w, _, _ := half()
		greets("to a client: "+name, w, 0, api.Frame{Data: b}, true)
	}
	client := newInsider(t, [4]uint64{9, 9, 9, 9}).ends[0].own
	for name, b := range map[string][]byte{"a server's": server, "a client's once more": client, "none": {0}} {
		w, _, _ := half()
		greets("to a server: "+name, w, 1, api.Frame{Offset: uint64(len(client)), Data: b}, true)
	}
	w, _, _ = half()
	greets("too far behind", w, 1, api.Frame{Offset: 300, Data: []byte{1}}, true)
	greets("likewise", newInsider(t, [4]uint64{}), 1, api.Frame{Offset: api.MaxNumber}, true)

	w, server, finish = half()
	greets("a server's, in parts", w, 0, api.Frame{Data: server[:9]}, false)
	greets("a server's, in parts", w, 0, api.Frame{Offset: 40, Data: server[40:]}, false)
	if w.ends[0].ready {
		t.Error("ready by a part of the greeting")
	}
	greets("a server's, in parts", w, 0, api.Frame{Offset: 5, Data: server[5:44]}, false)
	greets("a client's, in parts", w, 1, api.Frame{Offset: uint64(len(client)) + 7, Data: finish[7:]}, false)
	greets("a client's, in parts", w, 1, api.Frame{Offset: uint64(len(client)) - 1, Data: append(client[len(client)-1:], finish[:7]...)}, false)
	if !w.ends[0].ready || !w.ends[1].ready {
		t.Error("not ready")
	}
	greets("once more", w, 1, api.Frame{Data: client}, false)
	w.ready()
	for i, own := range []int{len(server), len(client) + len(finish)} {
		w := newInsider(t, [4]uint64{9, 9, 9, 9}).ready()
		w.comes(i, w.sendsThat(1-i, true, api.Frame{Kind: api.FrCrypto, Offset: uint64(own), Data: []byte{1}}))
		if _, over := w.ends[i].Ended(); !over {
			t.Error("more than the greeting")
		}
	}
}

// The words: a server's proof and the keys hang on the greetings of both ends, whole: other nonces, limits or another Shared make other keys, each direction and each kind of packets has its own.
func TestKeys(t *testing.T) {
	seen := map[string]string{}
	add := func(name string, k api.Keys) {
		t.Helper()
		for _, x := range [][]byte{k.Key, k.Mask} {
			if was, is := seen[string(x)]; is {
				t.Errorf("%s has a key of %s", name, was)
			}
			seen[string(x)] = name
		}
	}
	for name, change := range map[string]func(c *[2]Config){
		"as they are":        func(c *[2]Config) {},
		"the client's nonce": func(c *[2]Config) { c[0].Nonce[31] = 9 },
		"the server's nonce": func(c *[2]Config) { c[1].Nonce[20] = 9 },
		"a client's limit":   func(c *[2]Config) { c[0].Limits[3] = 9; c[0].Nonce[1] = 1 },
		"a server's limit":   func(c *[2]Config) { c[1].Limits[0] = 9; c[0].Nonce[1] = 2 },
		"another Shared":     func(c *[2]Config) { c[0].Shared, c[1].Shared = []byte("other"), []byte("other") },
	} {
		configs := [2]Config{{Client: true, Shared: []byte("shared"), Idle: 9}, {Shared: []byte("shared"), Idle: 9}}
		change(&configs)
		w := &insider{t: t, used: map[string]bool{}}
		for i := range w.ends {
			w.ends[i], _ = New(configs[i], 0)
		}
		w.ready()
		c, s := w.ends[0], w.ends[1]
		if !slices.Equal(c.short.in.Key, s.short.out.Key) || !slices.Equal(c.short.out.Key, s.short.in.Key) {
			t.Error(name, ": the ends have other keys")
		}
		if name != "the server's nonce" { // that of the client's long packets hangs on its own name, which is that of the first here
			add(name+": long, client", c.long.out)
		}
		add(name+": long, server", s.long.out)
		add(name+": client", c.short.out)
		add(name+": server", s.short.out)
	}
	short := func(limits [4]uint64) []byte {
		return newInsider(t, limits).ready().ends[0].short.out.Key
	}
	if slices.Equal(short([4]uint64{1, 2, 3, 4}), short([4]uint64{1, 2, 3, 5})) {
		t.Error("the keys do not hang on the limits")
	}
}

// The words: each that asks is answered, as soon as its end sends; an answer tells how long it took, and asks for none itself.
func TestAnswered(t *testing.T) {
	w := newInsider(t, [4]uint64{api.MaxNumber, api.MaxNumber, 9, 9}).ready()
	c := w.ends[0]
	id, _ := c.Open(true)
	c.Write(id, make([]byte, 5000), false)
	w.now = 10
	var all []uint64
	for _, b := range w.sends(0) {
		h, _ := w.opened(0, b)
		if h.Number%3 != 0 {
			w.comes(1, b)
			all = append(all, h.Number)
		}
	}
	w.now = 35
	l := w.sends(1)
	if len(l) != 1 || len(all) < 3 {
		t.Fatal("answers:", len(l), "to", len(all))
	}
	_, frames := w.opened(1, l[0])
	if len(frames) != 1 || frames[0].Kind != api.FrAck || frames[0].Limit != 25 {
		t.Fatal("frames:", frames)
	}
	for _, n := range all {
		if !ranges.Has(frames[0].Ranges, n) {
			t.Errorf("%d is not answered: %v", n, frames[0].Ranges)
		}
	}
	for n := range c.number {
		if n >= all[0] && !slices.Contains(all, n) && ranges.Has(frames[0].Ranges, n) {
			t.Errorf("%d did not come, but is answered", n)
		}
	}
	w.comes(0, l[0])
	for _, b := range w.sends(0) { // what was lost
		_, frames := w.opened(0, b)
		if !slices.ContainsFunc(frames, frame.Eliciting) {
			t.Error("an answer to an answer:", frames)
		}
	}
}

// The words: what an answer may tell is as many ranges as a frame has; it tells the last ones.
func TestManyGaps(t *testing.T) {
	w := newInsider(t, [4]uint64{9, 9, 9, 9}).ready()
	first := w.ends[0].number
	for i := range 300 {
		b := w.sendsThat(0, false, api.Frame{Kind: api.FrPing})
		if i%3 == 0 {
			w.comes(1, b)
		}
	}
	l := w.sends(1)
	_, frames := w.opened(1, l[0])
	if len(frames) != 1 || len(frames[0].Ranges) != api.MaxRanges {
		t.Fatal("frames:", frames)
	}
	for i, r := range frames[0].Ranges {
		if want := first + 3*uint64(100-api.MaxRanges+i); r.From != want || r.To != want {
			t.Errorf("range %d: %v", i, r)
		}
	}
	w.comes(0, l[0])
	w.goes()
}

// The words: numbers that came, held against a map.
func TestNumbers(t *testing.T) {
	for seed := range uint64(300) {
		r := rand.New(rand.NewPCG(seed, 1))
		var l numbers
		came := map[uint64]bool{}
		base := []uint64{0, 1, 1 << 40, api.MaxNumber - 60}[seed%4]
		if l.greatest() != -1 {
			t.Error("the greatest of none:", l.greatest())
		}
		greatest := uint64(0)
		for range r.IntN(70) {
			n := base + uint64(r.IntN(61))
			if l.has(n) != came[n] {
				t.Fatalf("seed %d: %v has %d: %v", seed, l, n, l.has(n))
			}
			if !came[n] {
				l = l.with(n)
				came[n] = true
				greatest = max(greatest, n)
			}
			if l.greatest() != int64(greatest) {
				t.Fatalf("seed %d: the greatest of %v: %d", seed, l, l.greatest())
			}
			if !ranges.Check(l) {
				t.Fatalf("seed %d: %v is no set", seed, l)
			}
		}
		for n := base; n < base+61; n++ {
			if l.has(n) != came[n] {
				t.Fatalf("seed %d: %v has %d: %v", seed, l, n, l.has(n))
			}
		}
	}
}

// P18.4, P18.8: an end that nobody answers asks by what may have been missed longest, each time after a while.
func TestProbes(t *testing.T) {
	w := newInsider(t, [4]uint64{api.MaxNumber, api.MaxNumber, 9, 9}).ready()
	c := w.ends[0]
	id, _ := c.Open(true)
	c.Write(id, []byte("first"), false)
	w.sends(0)
	c.Write(id, []byte("second"), false)
	w.sends(0)
	for range 5 {
		at, some := c.When()
		if !some || at <= w.now {
			t.Fatal("When:", at, some)
		}
		w.now = at
		l := w.sends(0)
		if len(l) != 1 {
			t.Fatal("datagrams:", len(l))
		}
		_, frames := w.opened(0, l[0])
		if len(frames) == 0 || string(frames[0].Data) != "first" {
			t.Error("frames:", frames)
		}
	}
	w.goes()
	w.now, _ = c.When()
	w.goes()
	if b, _, _ := w.ends[1].Read(id); string(b) != "firstsecond" {
		t.Errorf("read: %s", b)
	}
}

// P18.4: where all that was missed came in some other way, it is asked without a word.
func TestPing(t *testing.T) {
	w := newInsider(t, [4]uint64{9, 9, 9, 9}).ready()
	c := w.ends[0]
	w.sendsThat(0, false, api.Frame{Kind: api.FrPing})
	w.now, _ = c.When()
	l := w.sends(0)
	if len(l) != 1 {
		t.Fatal("datagrams:", len(l))
	}
	if _, frames := w.opened(0, l[0]); frames[0].Kind != api.FrPing {
		t.Error("frames:", frames)
	}
	w.comes(1, l[0])
	w.goes()
	if at, some := c.When(); some { // the first one is lost by now, or soon
		w.now = at
		w.goes()
	}
	if _, some := c.When(); some {
		t.Error("there is something left to do")
	}
}

// P18.4: what came is not sent again, though the packet that brought it first is lost.
func TestNotAgain(t *testing.T) {
	w := newInsider(t, [4]uint64{api.MaxNumber, api.MaxNumber, 9, 9}).ready()
	c := w.ends[0]
	id, _ := c.Open(true)
	c.Write(id, []byte("first"), true)
	w.sends(0) // it's lost
	w.now, _ = c.When()
	w.comes(1, w.sends(0)[0])
	w.comes(0, w.sends(1)[0])
	for range 3 {
		if l := w.sends(0); l != nil {
			_, frames := w.opened(0, l[0])
			t.Error("frames:", frames)
		}
		w.now += 1000
	}
	if len(c.sent) != 0 || c.ledger.Away() != 0 {
		t.Error("packets on the way:", len(c.sent))
	}
	if b, last, _ := w.ends[1].Read(id); string(b) != "first" || !last {
		t.Errorf("read: %s, %v", b, last)
	}
}

// P18.4: who is answered nothing for long keeps no more to be sent again than there is.
func TestLongSilence(t *testing.T) {
	w := newInsider(t, [4]uint64{api.MaxNumber, api.MaxNumber, 9, 9}).ready()
	c := w.ends[0]
	id, _ := c.Open(true)
	c.Write(id, make([]byte, 40000), true)
	w.sends(0)
	for range 100 {
		w.now, _ = c.When()
		if l := w.sends(0); len(l) != 1 {
			t.Fatal("datagrams:", len(l))
		}
		if len(c.queue) > 2 {
			t.Fatal("frames that wait:", len(c.queue))
		}
	}
	w.goes()
	for i := 0; i < 9 && len(c.sent) > 0; i++ {
		w.now, _ = c.When()
		w.goes()
	}
	if b, last, _ := w.ends[1].Read(id); len(b) != 40000 || !last {
		t.Error("read:", len(b), last)
	}
}

// P18.4: frames that are sent again fit into a packet, just where they are greatest: of a stream of a great number, far behind its beginning.
func TestGreatestFrames(t *testing.T) {
	w := newInsider(t, [4]uint64{api.MaxNumber, api.MaxNumber, 64, 64}).ready()
	c := w.ends[0]
	var id uint64
	for range 17 {
		id, _ = c.Open(false)
	}
	c.Write(id, make([]byte, 200000), false)
	w.goes()
	c.Write(id, make([]byte, 50000), true)
	w.sends(0) // all that is lost
	full := false
	for len(c.sent) > 0 {
		w.now, _ = c.When()
		l := w.sends(0)
		for _, b := range l {
			full = full || len(b) == api.MaxPacket
			w.comes(1, b)
		}
		w.goes()
	}
	if !full {
		t.Error("no packet is full")
	}
	if b, last, _ := w.ends[1].Read(id); len(b) != 250000 || !last {
		t.Error("read:", len(b), last)
	}
}

// P18.4: likewise by their sizes.
func TestMostAgain(t *testing.T) {
	f := api.Frame{Kind: api.FrStream, Stream: 4*api.MaxStreams - 1, Offset: api.MaxBytes, Data: make([]byte, mostAgain), Fin: true}
	if n := bytesOf(f); n != mostFrames {
		t.Errorf("%d bytes, where there is room for %d", n, mostFrames)
	}
	w := newInsider(t, [4]uint64{}).ready()
	if b := w.sendsThat(0, false, f); len(b) != api.MaxPacket {
		t.Error("a packet of", len(b))
	}
	greatest := api.Frame{Kind: api.FrAck, Limit: api.MaxTime}
	for i := range uint64(api.MaxRanges) {
		n := api.MaxNumber - 1<<40*(api.MaxRanges-i)
		greatest.Ranges = append(greatest.Ranges, api.Range{From: n, To: n + 1<<39})
	}
	if n := bytesOf(greatest); n == 0 || n > mostFrames-100 {
		t.Error("an answer of", n)
	}
}

// P18.4: what is lost is told once: a stream of which bytes came is not told of alone.
func TestNoNeedlessFrames(t *testing.T) {
	w := newInsider(t, [4]uint64{api.MaxNumber, api.MaxNumber, 64, 64}).ready()
	c := w.ends[0]
	id, _ := c.Open(false)
	c.Write(id, []byte("abc"), false)
	for range 3 {
		for _, b := range w.sends(0) {
			_, frames := w.opened(0, b)
			if frames[0].Kind != api.FrStream || string(frames[0].Data) != "abc" || len(frames) > 2 {
				t.Error("frames:", frames)
			}
		}
		w.now, _ = c.When()
	}
	w = newInsider(t, [4]uint64{api.MaxNumber, api.MaxNumber, 64, 64}).ready()
	w.ends[0].Open(false)
	for range 3 {
		for _, b := range w.sends(0) {
			if _, frames := w.opened(0, b); frames[0].Kind != api.FrStream || len(frames[0].Data) > 0 || frames[0].Fin {
				t.Error("frames:", frames)
			}
		}
		w.now, _ = w.ends[0].When()
	}
}

// P18.4: there is room on the way for just as much as the ledger says.
func TestMayAsk(t *testing.T) {
	c := newInsider(t, [4]uint64{}).ends[0]
	for n := range uint64(9) {
		c.ledger.Sent(n, api.MaxPacket, 0, true)
	}
	if !c.mayAsk() {
		t.Error("there is no room for one more")
	}
	c.ledger.Sent(9, 1, 0, true)
	if c.mayAsk() {
		t.Error("there is room for a byte too many")
	}
	c.probes = true
	if !c.mayAsk() {
		t.Error("it may not ask, though it has to")
	}
}

// The words: of the greeting each part is sent again once, however often it was lost.
func TestGreetingOnce(t *testing.T) {
	c := newInsider(t, [4]uint64{}).ends[0]
	c.greet = nil
	first, second := api.Frame{Kind: api.FrCrypto, Data: []byte{1}}, api.Frame{Kind: api.FrCrypto, Offset: 1, Data: []byte{2}}
	c.again([]api.Frame{first, first, second, first, second})
	if len(c.greet) != 2 || c.greet[0].Offset != 0 || c.greet[1].Offset != 1 {
		t.Error("frames:", c.greet)
	}
}

// The words: numbers of packets that ask for nothing are answered too, where something is sent anyway and there is room for it.
func TestAnswersBeside(t *testing.T) {
	w := newInsider(t, [4]uint64{api.MaxNumber, api.MaxNumber, 9, 9}).ready()
	c, s := w.ends[0], w.ends[1]
	id, _ := c.Open(false)
	for range 5 {
		c.Write(id, []byte("abc"), false)
		w.goes()
	}
	acks := s.number - 1 // the last one that answered, and asked for nothing
	c.Write(id, make([]byte, 100), false)
	l := w.sends(0)
	_, frames := w.opened(0, l[0])
	if len(l) != 1 || len(frames) != 2 || frames[1].Kind != api.FrAck || !ranges.Has(frames[1].Ranges, acks) {
		t.Error("frames:", frames)
	}
	w.comes(1, l[0])
	w.sends(1) // it does not come
	c.Write(id, make([]byte, 100), false)
	_, frames = w.opened(0, w.sends(0)[0])
	if len(frames) != 1 {
		t.Error("an answer twice:", frames)
	}
	s.Write(id, make([]byte, 100), false)
	for _, b := range w.sends(1) {
		w.comes(0, b)
	}
	_, frames = w.opened(0, w.sends(0)[0])
	if len(frames) != 1 || frames[0].Kind != api.FrAck {
		t.Error("no answer:", frames)
	}
}

// P18.6: a code that was told by Close goes as the application's; one that a misdeed made does not.
func TestFarewellFrame(t *testing.T) {
	w := newInsider(t, [4]uint64{9, 9, 9, 9}).ready()
	w.ends[0].Close(5)
	if _, l := w.opened(0, w.sends(0)[0]); len(l) != 1 || l[0].Kind != api.FrClose || l[0].Code != 5 || !l[0].Fin || len(l[0].Data) > 0 {
		t.Error("frames:", l)
	}
	w.comes(1, w.sendsThat(0, false, api.Frame{Kind: api.FrDone}))
	if _, l := w.opened(1, w.sends(1)[0]); len(l) != 1 || l[0].Kind != api.FrClose || l[0].Code != uint64(api.ErrForm) || l[0].Fin {
		t.Error("frames:", l)
	}
}

// The words: both prove what they know, each by its own kind of proof, of all that was said ahead of it.
func TestProofs(t *testing.T) {
	w := newInsider(t, [4]uint64{1, 2, 3, 4})
	_, l := w.opened(0, w.sends(0)[0])
	client := l[0].Data
	w.comes(1, w.ends[0].packet(l, true))
	_, l = w.opened(1, w.sends(1)[0])
	server := l[0].Data
	w.comes(0, w.ends[1].packet(l, true))
	_, l = w.opened(0, w.sends(0)[0])
	finish := l[0].Data
	h, _, e := hello.Get(server)
	if e != api.OK || h.Kind != hello.Server || h.Limits != [4]uint64{1, 2, 3, 4} || h.Nonce != [32]byte{1} {
		t.Fatal("the server's greeting:", h, e)
	}
	bare := h
	bare.Proof = [32]byte{}
	b, _ := hello.Put(bare)
	if want, _ := hello.Proof([]byte("shared"), slices.Concat(client, b), true); h.Proof != want {
		t.Error("the server's proof")
	}
	f, _, _ := hello.Get(finish)
	if want, _ := hello.Proof([]byte("shared"), slices.Concat(client, server), false); f.Kind != hello.Finish || f.Proof != want {
		t.Error("the client's proof")
	}
	for i, client1 := range []bool{true, false} {
		secret, _ := keys.Secret([]byte("shared"), slices.Concat(client, server, finish), client1)
		if k, _ := keys.Of(secret); !slices.Equal(k.Key, w.ends[i].short.out.Key) {
			t.Error("the keys of what is sent by end", i)
		}
	}
}

// P18.4: a number that can't be, or more on the way than may be: nothing is sent then, nothing gets lost.
func TestNoPacket(t *testing.T) {
	w := newInsider(t, [4]uint64{99, 99, 9, 9}).ready()
	c := w.ends[0]
	id, _ := c.Open(true)
	c.Write(id, []byte("abc"), true)
	c.number = api.MaxNumber + 1
	if l := w.sends(0); l != nil {
		t.Error("datagrams:", len(l))
	}
	c.number = 50
	w.goes()
	if b, last, _ := w.ends[1].Read(id); string(b) != "abc" || !last {
		t.Errorf("read: %s, %v", b, last)
	}
}
