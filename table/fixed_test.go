package table_test

import (
	"strconv"
	"strings"
	"sync"
	"testing"

	"mailcoach/api"
	"mailcoach/table"
)

// chapterTable: the chapter's table, a line a field: its place, its name, its value, with a tab between each two.
const chapterTable = `0	:authority	
1	:path	/
2	age	0
3	content-disposition	
4	content-length	0
5	cookie	
6	date	
7	etag	
8	if-modified-since	
9	if-none-match	
10	last-modified	
11	link	
12	location	
13	referer	
14	set-cookie	
15	:method	CONNECT
16	:method	DELETE
17	:method	GET
18	:method	HEAD
19	:method	OPTIONS
20	:method	POST
21	:method	PUT
22	:scheme	http
23	:scheme	https
24	:status	103
25	:status	200
26	:status	304
27	:status	404
28	:status	503
29	accept	*/*
30	accept	application/dns-message
31	accept-encoding	gzip, deflate, br
32	accept-ranges	bytes
33	access-control-allow-headers	cache-control
34	access-control-allow-headers	content-type
35	access-control-allow-origin	*
36	cache-control	max-age=0
37	cache-control	max-age=2592000
38	cache-control	max-age=604800
39	cache-control	no-cache
40	cache-control	no-store
41	cache-control	public, max-age=31536000
42	content-encoding	br
43	content-encoding	gzip
44	content-type	application/dns-message
45	content-type	application/javascript
46	content-type	application/json
47	content-type	application/x-www-form-urlencoded
48	content-type	image/gif
49	content-type	image/jpeg
50	content-type	image/png
51	content-type	text/css
52	content-type	text/html; charset=utf-8
53	content-type	text/plain
54	content-type	text/plain;charset=utf-8
55	range	bytes=0-
56	strict-transport-security	max-age=31536000
57	strict-transport-security	max-age=31536000; includesubdomains
58	strict-transport-security	max-age=31536000; includesubdomains; preload
59	vary	accept-encoding
60	vary	origin
61	x-content-type-options	nosniff
62	x-xss-protection	1; mode=block
63	:status	100
64	:status	204
65	:status	206
66	:status	302
67	:status	400
68	:status	403
69	:status	421
70	:status	425
71	:status	500
72	accept-language	
73	access-control-allow-credentials	FALSE
74	access-control-allow-credentials	TRUE
75	access-control-allow-headers	*
76	access-control-allow-methods	get
77	access-control-allow-methods	get, post, options
78	access-control-allow-methods	options
79	access-control-expose-headers	content-length
80	access-control-request-headers	content-type
81	access-control-request-method	get
82	access-control-request-method	post
83	alt-svc	clear
84	authorization	
85	content-security-policy	script-src 'none'; object-src 'none'; base-uri 'none'
86	early-data	1
87	expect-ct	
88	forwarded	
89	if-range	
90	origin	
91	purpose	prefetch
92	server	
93	timing-allow-origin	*
94	upgrade-insecure-requests	1
95	user-agent	
96	x-forwarded-for	
97	x-frame-options	deny
98	x-frame-options	sameorigin`

// chapterFields: what the chapter's table says.
func chapterFields(t *testing.T) (l []api.Field) {
	for i, line := range strings.Split(chapterTable, "\n") {
		parts := strings.Split(line, "\t")
		if len(parts) != 3 || parts[0] != strconv.Itoa(i) {
			t.Fatalf("the line %q is not the place %d", line, i)
		}
		l = append(l, api.Field{Name: parts[1], Value: parts[2]})
	}
	if len(l) != 99 {
		t.Fatal("fields in the chapter's table:", len(l))
	}
	return l
}

// plainFind: the first place of a whole field, and of its name.
func plainFind(l []api.Field, f api.Field) (whole, name int) {
	whole, name = -1, -1
	for i := len(l) - 1; i >= 0; i-- {
		if l[i].Name == f.Name {
			name = i
			if l[i].Value == f.Value {
				whole = i
			}
		}
	}
	return whole, name
}

// P19.1: each of the fixed fields stands at its place.
func TestFixedAll(t *testing.T) {
	for i, want := range chapterFields(t) {
		if f, ok := table.Fixed(i); f != want || !ok {
			t.Errorf("Fixed(%d): %q %v, not %q", i, f, ok, want)
		}
	}
}

// P19.1: the chapter's examples of Fixed, and the first and the last place.
func TestFixedExamples(t *testing.T) {
	for i, want := range map[int]api.Field{
		0:  {Name: ":authority"},
		1:  {Name: ":path", Value: "/"},
		17: {Name: ":method", Value: "GET"},
		25: {Name: ":status", Value: "200"},
		97: {Name: "x-frame-options", Value: "deny"},
		98: {Name: "x-frame-options", Value: "sameorigin"},
	} {
		if f, ok := table.Fixed(i); f != want || !ok {
			t.Errorf("Fixed(%d): %q %v", i, f, ok)
		}
	}
}

// P19.1, R1, R2: at a place that is none there is no field.
func TestFixedNone(t *testing.T) {
	for _, i := range []int{-1, -2, -99, 99, 100, 255, 256, 1 << 31, -1 << 31, 1<<63 - 1, -1 << 63} {
		if f, ok := table.Fixed(i); f != (api.Field{}) || ok {
			t.Errorf("Fixed(%d): %q %v", i, f, ok)
		}
	}
}

// P19.1: each of the fixed fields is found, as no two of them are the same, and so is the first one of its name.
func TestFindAll(t *testing.T) {
	l := chapterFields(t)
	for i, f := range l {
		first := i
		for first > 0 && hasName(l[:first], f.Name) {
			first--
		}
		if whole, name := table.Find(f); whole != i || name != first {
			t.Errorf("Find(%q): %d %d, not %d %d", f, whole, name, i, first)
		}
	}
}

// hasName: has one of these fields that name?
func hasName(l []api.Field, name string) bool {
	for _, f := range l {
		if f.Name == name {
			return true
		}
	}
	return false
}

// P19.1: the chapter's examples of Find; names with several values, in one piece of the table and in several; values that are none of them; empty ones; texts that are almost those of a field.
func TestFind(t *testing.T) {
	for _, c := range []struct {
		f           api.Field
		whole, name int
	}{
		{api.Field{Name: ":method", Value: "PUT"}, 21, 15},
		{api.Field{Name: ":method", Value: "X"}, -1, 15},
		{api.Field{Name: "x", Value: "y"}, -1, -1},
		{api.Field{Name: ":method", Value: "CONNECT"}, 15, 15},
		{api.Field{Name: ":method"}, -1, 15},
		{api.Field{Name: ":authority"}, 0, 0},
		{api.Field{Name: ":authority", Value: "a"}, -1, 0},
		{api.Field{Name: ":status", Value: "103"}, 24, 24},
		{api.Field{Name: ":status", Value: "100"}, 63, 24},
		{api.Field{Name: ":status", Value: "500"}, 71, 24},
		{api.Field{Name: ":status", Value: "501"}, -1, 24},
		{api.Field{Name: "access-control-allow-headers", Value: "*"}, 75, 33},
		{api.Field{Name: "access-control-allow-headers", Value: "content-type"}, 34, 33},
		{api.Field{Name: "access-control-allow-headers", Value: "x"}, -1, 33},
		{api.Field{Name: "access-control-allow-methods", Value: "get"}, 76, 76},
		{api.Field{Name: "content-type", Value: "text/plain;charset=utf-8"}, 54, 44},
		{api.Field{Name: "strict-transport-security", Value: "max-age=31536000; includesubdomains; preload"}, 58, 56},
		{api.Field{Name: "cookie"}, 5, 5},
		{api.Field{Name: "cookie", Value: "0"}, -1, 5},
		{api.Field{Name: "age"}, -1, 2},
		{api.Field{Name: "x-frame-options", Value: "deny"}, 97, 97},
		{api.Field{Name: "x-frame-options", Value: "sameorigin"}, 98, 97},
		{api.Field{Name: "x-frame-options", Value: ""}, -1, 97},
		{api.Field{}, -1, -1},
		{api.Field{Value: "GET"}, -1, -1},
		{api.Field{Name: ":Method", Value: "GET"}, -1, -1},
		{api.Field{Name: "method", Value: "GET"}, -1, -1},
		{api.Field{Name: ":method", Value: "get"}, -1, 15},
		{api.Field{Name: ":method ", Value: "GET"}, -1, -1},
		{api.Field{Name: ":method\x00", Value: "GET"}, -1, -1},
		{api.Field{Name: ":methodGET"}, -1, -1},
		{api.Field{Name: "GET", Value: ":method"}, -1, -1},
		{api.Field{Name: "\xff", Value: "\xfe"}, -1, -1},
		{api.Field{Name: strings.Repeat("a", 1<<20), Value: strings.Repeat("b", 1<<20)}, -1, -1},
		{api.Field{Name: "server", Value: strings.Repeat("b", 1<<20)}, -1, 92},
	} {
		if whole, name := table.Find(c.f); whole != c.whole || name != c.name {
			t.Errorf("Find(%.50q): %d %d, not %d %d", c.f, whole, name, c.whole, c.name)
		}
	}
}

// P19.1: every name with every value, and each of both with something in front, behind or cut off.
func TestFindMixed(t *testing.T) {
	l := chapterFields(t)
	changed := func(s string) []string {
		return []string{s, "x" + s, s + "x", s[:len(s)*2/3], s[len(s)/3:], strings.ToUpper(s)}
	}
	for _, f := range l {
		for _, g := range l {
			check := func(h api.Field) {
				whole, name := table.Find(h)
				if w, n := plainFind(l, h); whole != w || name != n {
					t.Fatalf("Find(%q): %d %d, not %d %d", h, whole, name, w, n)
				}
			}
			check(api.Field{Name: f.Name, Value: g.Value})
			check(api.Field{Name: g.Value, Value: f.Name})
		}
		for _, name := range changed(f.Name) {
			for _, value := range changed(f.Value) {
				h := api.Field{Name: name, Value: value}
				whole, first := table.Find(h)
				if w, n := plainFind(l, h); whole != w || first != n {
					t.Fatalf("Find(%q): %d %d, not %d %d", h, whole, first, w, n)
				}
			}
		}
	}
}

// R5: many that ask at the same time are all answered as one is.
func TestFixedAtOnce(t *testing.T) {
	l := chapterFields(t)
	var group sync.WaitGroup
	for range 8 {
		group.Go(func() {
			for i, want := range l {
				f, ok := table.Fixed(i)
				if whole, _ := table.Find(want); f != want || !ok || whole != i {
					t.Errorf("%d: %q %v, found at %d", i, f, ok, whole)
				}
			}
		})
	}
	group.Wait()
}
