package hkdf

import "testing"

// A loop over the parts may be left at each of them, and there are as many as the bytes need.
func TestPartsLeftEarly(t *testing.T) {
	for _, c := range []struct{ n, count int }{{0, 0}, {1, 1}, {31, 1}, {32, 1}, {33, 2}, {64, 2}, {65, 3}, {8159, 255}, {8160, 255}} {
		all := 0
		for range parts(macKey{}, nil, c.n) {
			all++
		}
		if all != c.count {
			t.Errorf("%d bytes: %d parts, not %d", c.n, all, c.count)
		}
		for leave := 1; leave <= min(all, 4); leave++ {
			seen := 0
			for range parts(macKey{}, nil, c.n) {
				seen++
				if seen == leave {
					break
				}
			}
			if seen != leave {
				t.Errorf("%d bytes, left at part %d: %d seen", c.n, leave, seen)
			}
		}
	}
}

// A part that a loop holds may be changed: the next ones stay what they are.
func TestPartsAreCopies(t *testing.T) {
	var first, second [][partSize]byte
	for part := range parts(macKey{1, 2, 3}, []byte("info"), 100) {
		first = append(first, part)
		clear(part[:])
	}
	for part := range parts(macKey{1, 2, 3}, []byte("info"), 100) {
		second = append(second, part)
	}
	for i := range second {
		if first[i] != second[i] {
			t.Errorf("part %d: %x, not %x", i, first[i], second[i])
		}
	}
}

// P3.3: the info of a name, byte by byte.
func TestInfoOf(t *testing.T) {
	for _, c := range []struct {
		name, context string
		n             int
		want          string
	}{
		{"", "", 0, "\x00\x00\x06tls13 \x00"},
		{"quic key", "", 16, "\x00\x10\x0etls13 quic key\x00"},
		{"x", "ab", 8160, "\x1f\xe0\x07tls13 x\x02ab"},
		{"\x00\xff", "\x00", 256, "\x01\x00\x08tls13 \x00\xff\x01\x00"},
	} {
		if got := infoOf(c.name, []byte(c.context), c.n); string(got) != c.want {
			t.Errorf("%q, %q, %d: %q, not %q", c.name, c.context, c.n, got, c.want)
		}
	}
}
