package conn

import (
	"bytes"
	"slices"

	"mailcoach/api"
	"mailcoach/flow"
	"mailcoach/hello"
	"mailcoach/keys"
	"mailcoach/pieces"
	"mailcoach/sha"
)

const (
	nameSize     = 20  // bytes of the name by which an end tells that a long packet is its own
	greetingRoom = 256 // more bytes than the greetings of an end have
)

// pair: the keys of what comes in, and of what goes out.
type pair struct{ in, out api.Keys }

// greeting: how far both got to know one another.
//
// The keys of long packets hang on what both share and on the names of both ends: so they are other ones for each connection, and each packet of it that is opened was sealed by one who knows what both share.
type greeting struct {
	name       []byte     // of this end
	bound      bool       // whether the other one's name is known
	long       pair       // if bound; of a client what goes out at once
	short      pair       // if keyed
	keyed      bool       // whether both greetings are known
	ready      bool       // whether the other one knows what both share
	awaits     hello.Kind // the greeting that is to come next
	comes      *pieces.Pieces
	begun      []byte   // what came of the next greeting
	own        []byte   // what the client said
	finish     [32]byte // the proof with which the client is to finish
	peerLimits [4]uint64
}

// begin: a client greets; a server waits till it is.
func (c *Conn) begin() {
	name, _ := sha.Sum(c.nonce[:])
	c.name = bytes.Clone(name[:nameSize])
	c.comes, _ = pieces.New(greetingRoom)
	c.awaits = hello.Client
	if c.client {
		c.awaits = hello.Server
		c.long.out = c.longKeys(true, nil)
		c.own, _ = hello.Put(hello.Hello{Kind: hello.Client, Nonce: c.nonce, Limits: c.limits})
		c.say(0, c.own)
	}
}

// say: bytes of the greeting are to be sent.
func (c *Conn) say(at int, b []byte) {
	c.greet = append(c.greet, api.Frame{Kind: api.FrCrypto, Offset: uint64(at), Data: b})
}

// longKeys: of the long packets that the client sends, or the server, this end's other one having that name. Those of the client hang on its name alone, as it has to send ahead of knowing the other one's.
func (c *Conn) longKeys(client bool, peer []byte) api.Keys {
	first, second := c.name, peer // the client's name, the server's
	if !c.client {
		first, second = second, first
	}
	if client {
		return c.keysOf(true, first)
	}
	return c.keysOf(false, first, second)
}

// keysOf: of what the client sends, or the server, from what was said.
func (c *Conn) keysOf(client bool, said ...[]byte) api.Keys {
	secret, _ := keys.Secret(c.shared, slices.Concat(said...), client)
	k, _ := keys.Of(secret)
	return k
}

// bind: the other end is the one of that name, from now on.
func (c *Conn) bind(peer []byte) {
	if c.bound {
		return
	}
	c.bound = true
	c.long.in = c.longKeys(!c.client, peer)
	if !c.client {
		c.long.out = c.longKeys(false, peer)
	}
}

// hearsBytes: bytes of the other one's greeting.
func (c *Conn) hearsBytes(f api.Frame) api.Errno {
	if e := c.comes.Put(f.Offset, f.Data, false); e != api.OK {
		return e
	}
	b, _, e := c.comes.Take(api.MaxBytes)
	if e != api.OK {
		return e
	}
	c.begun = append(c.begun, b...)
	for len(c.begun) > 0 {
		h, n, e := hello.Get(c.begun)
		switch {
		case e == api.ErrShort && c.awaits != hello.None: // the rest is on its way
			return api.OK
		case e != api.OK:
			return e
		case h.Kind != c.awaits:
			return api.ErrForm
		}
		told := c.begun[:n]
		c.begun = c.begun[n:]
		if e := c.isGreeted(h, told); e != api.OK {
			return e
		}
	}
	return api.OK
}

// isGreeted: by a greeting that was awaited.
func (c *Conn) isGreeted(h hello.Hello, told []byte) api.Errno {
	switch h.Kind {
	case hello.Client:
		return c.isGreetedByClient(h, told)
	case hello.Server:
		return c.isGreetedByServer(h, told)
	}
	if h.Proof != c.finish {
		return api.ErrTag
	}
	c.awaits, c.ready = hello.None, true
	return api.OK
}

// isGreetedByClient: the server greets too.
func (c *Conn) isGreetedByClient(h hello.Hello, told []byte) api.Errno {
	own := hello.Hello{Kind: hello.Server, Nonce: c.nonce, Limits: c.limits}
	proof, e := c.serverProof(told, own)
	if e != api.OK {
		return e
	}
	own.Proof = proof
	b, e := hello.Put(own)
	if e != api.OK {
		return e
	}
	c.say(0, b)
	c.awaits = hello.Finish
	_, e = c.know(told, b, h.Limits)
	return e
}

// isGreetedByServer: the client finishes the greeting, if the server has proved what it knows.
func (c *Conn) isGreetedByServer(h hello.Hello, told []byte) api.Errno {
	proof, e := c.serverProof(c.own, h)
	if e != api.OK {
		return e
	}
	if h.Proof != proof {
		return api.ErrTag
	}
	finish, e := c.know(c.own, told, h.Limits)
	if e != api.OK {
		return e
	}
	c.say(len(c.own), finish)
	c.awaits, c.ready = hello.None, true
	return api.OK
}

// serverProof: what a server proves by, of what the client said, and of its own greeting but the proof.
func (c *Conn) serverProof(client []byte, h hello.Hello) ([32]byte, api.Errno) {
	h.Proof = [32]byte{}
	bare, e := hello.Put(h)
	if e != api.OK {
		return [32]byte{}, e
	}
	return hello.Proof(c.shared, slices.Concat(client, bare), true)
}

// know: both greetings are known: with them the client's last one, which is answered, the keys of all packets that are not long, and what the other end lets this one do.
func (c *Conn) know(client, server []byte, limits [4]uint64) ([]byte, api.Errno) {
	proof, e := hello.Proof(c.shared, slices.Concat(client, server), false)
	if e != api.OK {
		return nil, e
	}
	finish, e := hello.Put(hello.Hello{Kind: hello.Finish, Proof: proof})
	if e != api.OK {
		return nil, e
	}
	c.finish = proof
	c.short = pair{in: c.keysOf(!c.client, client, server, finish), out: c.keysOf(c.client, client, server, finish)}
	c.keyed = true
	c.peerLimits = limits
	c.credit = flow.Credit{Limit: limits[limitAll]}
	c.mine.lets = letsOf(limits)
	return finish, api.OK
}
