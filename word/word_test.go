package word

import (
	"slices"
	"strings"
	"testing"

	"proclitic/api"
)

func name(s string, at int) api.Token  { return api.Token{Kind: api.TokName, Text: s, At: at} }
func in(n uint64, at int) api.Token    { return api.Token{Kind: api.TokInt, N: n, At: at} }
func text(s string, at int) api.Token  { return api.Token{Kind: api.TokText, Text: s, At: at} }
func sign(s string, at int) api.Token  { return api.Token{Kind: api.TokSign, Text: s, At: at} }
func end(at int) api.Token             { return api.Token{Kind: api.TokEnd, At: at} }
func words(l ...api.Token) []api.Token { return l }

// P7.1
func TestLex(t *testing.T) {
	for s, want := range map[string][]api.Token{
		"":                        words(end(0)),
		" \t\n\v\f\r ":            words(end(7)),
		"a.b = 0x1F":              words(name("a.b", 0), sign("=", 4), in(31, 6), end(10)),
		".a._b1 .c":               words(name(".a._b1", 0), name(".c", 7), end(9)),
		"a .b":                    words(name("a", 0), name(".b", 2), end(4)),
		"_":                       words(name("_", 0), end(1)),
		"0 7 010 0xaF 0X0 00":     words(in(0, 0), in(7, 2), in(8, 4), in(175, 8), in(0, 13), in(0, 17), end(19)),
		"18446744073709551615":    words(in(1<<64-1, 0), end(20)),
		"0xffffffffffffffff":      words(in(1<<64-1, 0), end(18)),
		"01777777777777777777777": words(in(1<<64-1, 0), end(23)),
		"0x00000000000000000001":  words(in(1, 0), end(22)),
		"{}()[]=;,<>-":            words(sign("{", 0), sign("}", 1), sign("(", 2), sign(")", 3), sign("[", 4), sign("]", 5), sign("=", 6), sign(";", 7), sign(",", 8), sign("<", 9), sign(">", 10), sign("-", 11), end(12)),
		"-5":                      words(sign("-", 0), in(5, 1), end(2)),
		`"a'\\\"\'\n" 'b"'`:       words(text("a'\\\"'\n", 0), text(`b"`, 13), end(17)),
		`""''`:                    words(text("", 0), text("", 2), end(4)),
		"\"\x00\té😀\"":            words(text("\x00\té😀", 0), end(10)),
		`a"b"c`:                   words(name("a", 0), text("b", 1), name("c", 4), end(5)),
		`1"b"`:                    words(in(1, 0), text("b", 1), end(4)),
		"a//b\nc//":               words(name("a", 0), name("c", 5), end(8)),
		"a//b\rc":                 words(name("a", 0), end(6)),
		"a/*b\n*/c/**/d/***/":     words(name("a", 0), name("c", 7), name("d", 12), end(18)),
		"/*//*/a":                 words(name("a", 6), end(7)),
		"///*\na":                 words(name("a", 5), end(6)),
		"1/**/2":                  words(in(1, 0), in(2, 5), end(6)),
	} {
		l, e, at := Lex(s)
		if !slices.Equal(l, want) || e != api.OK || at != 0 {
			t.Errorf("%q: %v %d %d", s, l, e, at)
		}
		for i := 1; i < len(l); i++ {
			if l[i].At < l[i-1].At {
				t.Errorf("%q: places fall", s)
			}
		}
	}
}

// P7.1
func TestLexErrors(t *testing.T) {
	for _, x := range []struct {
		s  string
		e  api.Errno
		at int
	}{
		{"a /", api.ErrMalformed, 2},
		{"a /*/", api.ErrMalformed, 2},
		{"a /* *", api.ErrMalformed, 2},
		{"a.", api.ErrMalformed, 1},
		{"a..b", api.ErrMalformed, 1},
		{"a.1", api.ErrMalformed, 1},
		{" . a", api.ErrMalformed, 1},
		{"..a", api.ErrMalformed, 0},
		{"18446744073709551616", api.ErrLimit, 0},
		{"a 0x10000000000000000", api.ErrLimit, 2},
		{"02000000000000000000000", api.ErrLimit, 0},
		{"18446744073709551616a", api.ErrLimit, 0},
		{"99999999999999999999999999999", api.ErrLimit, 0},
		{" 0x", api.ErrMalformed, 1},
		{"0xg", api.ErrMalformed, 0},
		{"0b1", api.ErrMalformed, 0},
		{"08", api.ErrMalformed, 0},
		{"078", api.ErrMalformed, 0},
		{"1a", api.ErrMalformed, 0},
		{"1_", api.ErrMalformed, 0},
		{"1.", api.ErrMalformed, 0},
		{"1.a", api.ErrMalformed, 0},
		{"0x1g", api.ErrMalformed, 0},
		{`  "a`, api.ErrMalformed, 2},
		{`"a'`, api.ErrMalformed, 0},
		{"\"a\nb\"", api.ErrMalformed, 0},
		{"\"\\\n\"", api.ErrMalformed, 0},
		{`"\t"`, api.ErrMalformed, 0},
		{`"\`, api.ErrMalformed, 0},
		{`"\"`, api.ErrMalformed, 0},
		{`"\x41"`, api.ErrMalformed, 0},
		{"a \"\xff\"", api.ErrMalformed, 2},
		{"a'\xc3'", api.ErrMalformed, 1},
		{"a\x00", api.ErrMalformed, 1},
		{"é", api.ErrMalformed, 0},
		{"a+b", api.ErrMalformed, 1},
		{"a:", api.ErrMalformed, 1},
		{"\x7f", api.ErrMalformed, 0},
		{" \x08", api.ErrMalformed, 1},
		{" \x0e", api.ErrMalformed, 1},
		{"@[`{", api.ErrMalformed, 0},
		{"a 1a ?", api.ErrMalformed, 2},
		{strings.Repeat(" ", api.MaxText), api.OK, 0},
		{strings.Repeat("?", api.MaxText+1), api.ErrLimit, 0},
	} {
		l, e, at := Lex(x.s)
		if e != x.e || at != x.at || e != api.OK && l != nil {
			t.Errorf("%.30q: %v %d %d", x.s, l, e, at)
		}
	}
}
