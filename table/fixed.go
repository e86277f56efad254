package table

import "mailcoach/api"

// fixedMany: how many fixed fields there are.
const fixedMany = 99

// fixed: the fixed fields at their places, of which each line tells its first. They stand in a function, as so many are too great a table for a package.
func fixed() [fixedMany]api.Field {
	return [fixedMany]api.Field{
		0: {Name: ":authority"}, {Name: ":path", Value: "/"}, {Name: "age", Value: "0"}, {Name: "content-disposition"},
		4: {Name: "content-length", Value: "0"}, {Name: "cookie"}, {Name: "date"}, {Name: "etag"}, {Name: "if-modified-since"},
		9: {Name: "if-none-match"}, {Name: "last-modified"}, {Name: "link"}, {Name: "location"}, {Name: "referer"},
		14: {Name: "set-cookie"}, {Name: ":method", Value: "CONNECT"}, {Name: ":method", Value: "DELETE"},
		17: {Name: ":method", Value: "GET"}, {Name: ":method", Value: "HEAD"}, {Name: ":method", Value: "OPTIONS"},
		20: {Name: ":method", Value: "POST"}, {Name: ":method", Value: "PUT"}, {Name: ":scheme", Value: "http"},
		23: {Name: ":scheme", Value: "https"}, {Name: ":status", Value: "103"}, {Name: ":status", Value: "200"},
		26: {Name: ":status", Value: "304"}, {Name: ":status", Value: "404"}, {Name: ":status", Value: "503"},
		29: {Name: "accept", Value: "*/*"}, {Name: "accept", Value: "application/dns-message"},
		31: {Name: "accept-encoding", Value: "gzip, deflate, br"}, {Name: "accept-ranges", Value: "bytes"},
		33: {Name: "access-control-allow-headers", Value: "cache-control"},
		34: {Name: "access-control-allow-headers", Value: "content-type"}, {Name: "access-control-allow-origin", Value: "*"},
		36: {Name: "cache-control", Value: "max-age=0"}, {Name: "cache-control", Value: "max-age=2592000"},
		38: {Name: "cache-control", Value: "max-age=604800"}, {Name: "cache-control", Value: "no-cache"},
		40: {Name: "cache-control", Value: "no-store"}, {Name: "cache-control", Value: "public, max-age=31536000"},
		42: {Name: "content-encoding", Value: "br"}, {Name: "content-encoding", Value: "gzip"},
		44: {Name: "content-type", Value: "application/dns-message"}, {Name: "content-type", Value: "application/javascript"},
		46: {Name: "content-type", Value: "application/json"}, {Name: "content-type", Value: "application/x-www-form-urlencoded"},
		48: {Name: "content-type", Value: "image/gif"}, {Name: "content-type", Value: "image/jpeg"},
		50: {Name: "content-type", Value: "image/png"}, {Name: "content-type", Value: "text/css"},
		52: {Name: "content-type", Value: "text/html; charset=utf-8"}, {Name: "content-type", Value: "text/plain"},
		54: {Name: "content-type", Value: "text/plain;charset=utf-8"}, {Name: "range", Value: "bytes=0-"},
		56: {Name: "strict-transport-security", Value: "max-age=31536000"},
		57: {Name: "strict-transport-security", Value: "max-age=31536000; includesubdomains"},
		58: {Name: "strict-transport-security", Value: "max-age=31536000; includesubdomains; preload"},
		59: {Name: "vary", Value: "accept-encoding"}, {Name: "vary", Value: "origin"},
		61: {Name: "x-content-type-options", Value: "nosniff"}, {Name: "x-xss-protection", Value: "1; mode=block"},
		63: {Name: ":status", Value: "100"}, {Name: ":status", Value: "204"}, {Name: ":status", Value: "206"},
		66: {Name: ":status", Value: "302"}, {Name: ":status", Value: "400"}, {Name: ":status", Value: "403"},
		69: {Name: ":status", Value: "421"}, {Name: ":status", Value: "425"}, {Name: ":status", Value: "500"},
		72: {Name: "accept-language"}, {Name: "access-control-allow-credentials", Value: "FALSE"},
		74: {Name: "access-control-allow-credentials", Value: "TRUE"}, {Name: "access-control-allow-headers", Value: "*"},
		76: {Name: "access-control-allow-methods", Value: "get"},
		77: {Name: "access-control-allow-methods", Value: "get, post, options"},
		78: {Name: "access-control-allow-methods", Value: "options"},
		79: {Name: "access-control-expose-headers", Value: "content-length"},
		80: {Name: "access-control-request-headers", Value: "content-type"}, {Name: "access-control-request-method", Value: "get"},
		82: {Name: "access-control-request-method", Value: "post"}, {Name: "alt-svc", Value: "clear"}, {Name: "authorization"},
		85: {Name: "content-security-policy", Value: "script-src 'none'; object-src 'none'; base-uri 'none'"},
		86: {Name: "early-data", Value: "1"}, {Name: "expect-ct"}, {Name: "forwarded"}, {Name: "if-range"}, {Name: "origin"},
		91: {Name: "purpose", Value: "prefetch"}, {Name: "server"}, {Name: "timing-allow-origin", Value: "*"},
		94: {Name: "upgrade-insecure-requests", Value: "1"}, {Name: "user-agent"}, {Name: "x-forwarded-for"},
		97: {Name: "x-frame-options", Value: "deny"}, {Name: "x-frame-options", Value: "sameorigin"},
	}
}
