// Package rec takes a message's bytes apart into records, as they lie, and puts records together again.
package rec

import (
	"strings"

	"proclitic/api"
)

// mostBytes is how many groups of seven bits 64 bits need.
const mostBytes = 10

// Varint tells the number at s's front and how many bytes it has.
func Varint(s string) (v uint64, n int, e api.Errno) {
	for i := 0; i < len(s) && i < mostBytes; i++ {
		group := uint64(s[i] & 0x7f)
		// The tenth group has room for the 64th bit alone.
		if i == mostBytes-1 && group > 1 {
			return 0, 0, api.ErrMalformed
		}
		v |= group << (7 * uint(i))
		if s[i] < 0x80 {
			return v, i + 1, api.OK
		}
	}
	return 0, 0, api.ErrMalformed
}

// PutVarint writes v in as few bytes as there may be.
func PutVarint(v uint64) string {
	var b []byte
	for v >= 0x80 {
		b = append(b, byte(v)|0x80)
		v >>= 7
	}
	return string(append(b, byte(v)))
}

// Split tells the records that stand one behind the other in s.
func Split(s string) ([]api.Record, api.Errno) {
	if len(s) > api.MaxBytes {
		return nil, api.ErrLimit
	}
	var l []api.Record
	for len(s) > 0 {
		r, e := first(s)
		if e != api.OK {
			return nil, e
		}
		l = append(l, r)
		s = s[len(r.Raw):]
	}
	return l, api.OK
}

// first tells the record at s's front.
func first(s string) (api.Record, api.Errno) {
	t, n, e := Varint(s)
	if e != api.OK {
		return api.Record{}, e
	}
	num := t >> 3
	if num < 1 || num > api.MaxNum {
		return api.Record{}, api.ErrMalformed
	}
	r := api.Record{Num: int(num), Wire: int(t & 7)}
	body := 0
	switch r.Wire {
	case api.WireVarint:
		r.N, body, e = Varint(s[n:])
	case api.WireFixed8:
		r.N, body, e = fixed(s[n:], 8)
	case api.WireFixed4:
		r.N, body, e = fixed(s[n:], 4)
	case api.WireText:
		r.S, body, e = text(s[n:])
	default:
		e = api.ErrMalformed
	}
	if e != api.OK {
		return api.Record{}, e
	}
	r.Raw = s[:n+body]
	return r, api.OK
}

// fixed tells the number of size bytes, the lowest first, at s's front.
func fixed(s string, size int) (uint64, int, api.Errno) {
	if len(s) < size {
		return 0, 0, api.ErrMalformed
	}
	v := uint64(0)
	for i := range size {
		v |= uint64(s[i]) << (8 * uint(i))
	}
	return v, size, api.OK
}

// text tells the bytes behind their number at s's front, and how many bytes both have.
func text(s string) (string, int, api.Errno) {
	size, n, e := Varint(s)
	if e != api.OK {
		return "", 0, e
	}
	if size > uint64(len(s)-n) {
		return "", 0, api.ErrMalformed
	}
	end := n + int(size)
	return s[n:end], end, api.OK
}

// Put writes a record of r's Num and Wire, and of N or S, as short as may be.
func Put(r api.Record) string {
	if r.Num < 1 || r.Num > api.MaxNum {
		return ""
	}
	body := ""
	switch r.Wire {
	case api.WireVarint:
		body = PutVarint(r.N)
	case api.WireFixed8:
		body = putFixed(r.N, 8)
	case api.WireFixed4:
		body = putFixed(r.N, 4)
	case api.WireText:
		body = PutVarint(uint64(len(r.S))) + r.S
	default:
		return ""
	}
	return PutVarint(uint64(r.Num)<<3|uint64(r.Wire)) + body
}

// putFixed writes the low size bytes of v, the lowest first.
func putFixed(v uint64, size int) string {
	b := make([]byte, size)
	for i := range size {
		b[i] = byte(v >> (8 * uint(i)))
	}
	return string(b)
}

// Join writes all Raw, one behind the other.
func Join(l []api.Record) string {
	var b strings.Builder
	for _, r := range l {
		b.WriteString(r.Raw)
	}
	return b.String()
}
