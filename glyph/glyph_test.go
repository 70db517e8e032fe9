package glyph

import (
	"math/rand"
	"strings"
	"testing"
	"unicode/utf8"

	"proclitic/api"
)

// P3.1
func TestValid(t *testing.T) {
	for _, s := range []string{"", "a", "\x00\x7f", "é", "€", "😀", "\ufffd", "\uffff", "\U0010ffff", "\ud7ff\ue000"} {
		if !Valid(s) {
			t.Errorf("%q", s)
		}
	}
	for _, s := range []string{"\x80", "\xbf", "\xc0\x80", "\xc1\xbf", "\xc3", "a\xe2\x82", "\xe0\x9f\xbf", "\xed\xa0\x80", "\xed\xbf\xbf", "\xf0\x8f\xbf\xbf", "\xf4\x90\x80\x80", "\xf5\x80\x80\x80", "\xf8\x88\x80\x80\x80", "\xff", "\xc3a", "\xe2\x82\xe9"} {
		if Valid(s) {
			t.Errorf("%x", s)
		}
	}
	r := rand.New(rand.NewSource(1))
	for range 200000 {
		b := make([]byte, r.Intn(6))
		for i := range b {
			b[i] = byte(128 + r.Intn(128))
			if r.Intn(4) == 0 {
				b[i] = []byte{0xf4, 0xe0, 0xed, 0xf0, 0x8f, 0x90, 0xa0, 0x41}[r.Intn(8)]
			}
		}
		if Valid(string(b)) != utf8.Valid(b) {
			t.Fatalf("%x", b)
		}
	}
}

// P3.1
func TestPut(t *testing.T) {
	for r := range uint32(0x110000) {
		if Put(r) != string(rune(r)) {
			t.Fatalf("%x: %x", r, Put(r))
		}
	}
	for _, r := range []uint32{0xd800, 0xdfff, 0x110000, 1<<32 - 1} {
		if Put(r) != "\ufffd" {
			t.Errorf("%x: %x", r, Put(r))
		}
	}
}

// P3.2
func TestQuote(t *testing.T) {
	for s, want := range map[string]string{
		"":                  `""`,
		"a/'b":              `"a/'b"`,
		"\"\\\b\f\n\r\t":    `"\"\\\b\f\n\r\t"`,
		"\x00\x1f\x0b\x1b ": `"\u0000\u001f\u000b\u001b "`,
		"\x7fé😀":            "\"\x7fé😀\"",
		"\xff\xc3":          "\"\xff\xc3\"",
	} {
		if q := Quote(s); q != want {
			t.Errorf("%q: %s", s, q)
		}
	}
}

// P3.2
func TestUnquote(t *testing.T) {
	for _, x := range []struct {
		s, t string
		n    int
	}{
		{`""`, "", 2},
		{`"a" "b"`, "a", 3},
		{`"\"\\\/\b\f\n\r\t"`, "\"\\/\b\f\n\r\t", 18},
		{`"\u0041\u00e9\u20AC\u20ac"`, "Aé€€", 26},
		{`"\u0000"`, "\x00", 8},
		{`"\ud83d\ude00"`, "😀", 14},
		{`"\uDBFF\uDFFF"`, "\U0010ffff", 14},
		{"\"\x7fé\"", "\x7fé", 5},
	} {
		text, n, e := Unquote(x.s)
		if text != x.t || n != x.n || e != api.OK {
			t.Errorf("%s: %q %d %d", x.s, text, n, e)
		}
	}
	for _, s := range []string{"", "a", `a"b"`, `"`, `"a`, "\"\n\"", "\"\x1f\"", `"\a"`, `"\'"`, `"\x41"`, `"\`, `"\"`, `"\u"`, `"\u12"`, `"\u123g"`, `"\U0041"`, `"\ud800"`, `"\udc00"`, `"\ud800a"`, `"\ud800\u0041"`, `"\ud800\ud800"`, `"\udc00\ud800"`, `"\ud83d\n"`, `"\ud83d\u`, "\"\xff\"", "\"\xc3\"", "\"\xc3\\u00a9\"", "\"\xed\xa0\x80\""} {
		if text, n, e := Unquote(s); text != "" || n != 0 || e != api.ErrMalformed {
			t.Errorf("%q: %q %d %d", s, text, n, e)
		}
	}
}

// P3.2: what is quoted is unquoted as it was, if it is Valid.
func TestToAndFro(t *testing.T) {
	r := rand.New(rand.NewSource(2))
	for range 3000 {
		var b strings.Builder
		for range r.Intn(8) {
			b.WriteString(Put(r.Uint32() >> uint(11+r.Intn(18))))
		}
		s := b.String()
		q := Quote(s)
		if text, n, e := Unquote(q + "x"); text != s || n != len(q) || e != api.OK {
			t.Fatalf("%q: %q %d %d", s, text, n, e)
		}
	}
}
