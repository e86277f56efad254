package keys

import (
	"bytes"
	"testing"

	"mailcoach/api"
	"mailcoach/hkdf"
)

// What a secret is asked for comes in its order, as much as is asked for: nothing, one, more, the same twice.
func TestParts(t *testing.T) {
	secret := bytes.Repeat([]byte{7}, secretSize)
	for _, asked := range [][]part{
		nil,
		{{"quic iv", 12}},
		{{"quic key", 32}, {"quic iv", 12}, {"quic hp", 32}},
		{{"quic hp", 32}, {"quic key", 32}, {"quic key", 32}, {"a name", 0}, {"another", 100}},
	} {
		made, e := parts(secret, asked...)
		if e != api.OK || len(made) != len(asked) {
			t.Fatalf("%v: %x, %d", asked, made, e)
		}
		for i, p := range asked {
			want, _ := hkdf.Label(secret, p.name, nil, p.length)
			if len(made[i]) != p.length || !bytes.Equal(made[i], want) {
				t.Errorf("%v: %x, not %x", p, made[i], want)
			}
		}
	}
}

// What no key can tell is refused, whatever stands beside it; so is a secret of another size, even where nothing is asked for.
func TestPartsRefused(t *testing.T) {
	secret := make([]byte, secretSize)
	for _, wrong := range []part{{"quic key", -1}, {"quic key", 8161}, {string(make([]byte, 250)), 32}} {
		if made, e := parts(secret, part{"quic key", 32}, wrong, part{"quic iv", 12}); made != nil || e != api.ErrArg {
			t.Errorf("%.20q, %d: %x, %d", wrong.name, wrong.length, made, e)
		}
	}
	for _, size := range []int{0, 31, 33} {
		if made, e := parts(make([]byte, size)); made != nil || e != api.ErrArg {
			t.Errorf("a secret of %d bytes: %x, %d", size, made, e)
		}
	}
}

// A count is told by its bytes, the lowest first.
func TestCountOf(t *testing.T) {
	for _, c := range []struct {
		b    []byte
		want uint32
	}{
		{[]byte{0, 0, 0, 0}, 0},
		{[]byte{1, 0, 0, 0}, 1},
		{[]byte{0, 0, 0, 1}, 1 << 24},
		{[]byte{1, 2, 3, 4}, 0x04030201},
		{[]byte{0, 0, 0, 0x80}, 1 << 31},
		{[]byte{0xff, 0xff, 0xff, 0xff}, 1<<32 - 1},
	} {
		if got := countOf(c.b); got != c.want {
			t.Errorf("%x: %x, not %x", c.b, got, c.want)
		}
	}
}
