package pfile

import (
	"fmt"
	"reflect"
	"strings"
	"testing"

	"proclitic/api"
)

const head = `syntax = "proto3";`

// P8.1: words.
func TestWords(t *testing.T) {
	for i, w := range strings.Fields("double float int32 int64 uint32 uint64 sint32 sint64 fixed32 fixed64 sfixed32 sfixed64 bool string bytes") {
		if Kind(w) != i+1 {
			t.Errorf("%s: %d", w, Kind(w))
		}
	}
	for _, w := range []string{"", "Int32", "message", ".int32", "int", "int32 "} {
		if Kind(w) != 0 {
			t.Errorf("%s: %d", w, Kind(w))
		}
	}
	for name, want := range map[string]bool{"": false, "a": true, "a.b": false, ".a": false, "a b": true, ".": false} {
		if Plain(name) != want {
			t.Errorf("Plain(%s)", name)
		}
	}
}

// P8.1, P8.2
func TestParse(t *testing.T) {
	s := head + `
package a.b;
import "x"; import 'y';;
message M {
  int32 i = 1;
  optional .a.N o = 0x10 [packed = false];
  repeated sint64 r = 3 [packed=true];
  map<string, N.E> m = 4;
  oneof one { bool b = 5 [packed=true]; N n = 6; }
  ;
  message In { enum E { A = 0; ; B = -1; C = - 2147483648; D = 2147483647; E = -0; } }
  oneof two { string t = 18446744073709551615; }
  reserved 7, 8 to 9, 10 to max;
  reserved "p", 'q_1';
  enum Empty {}
  N last = 0;
}
enum T { X = 1;; }
`
	want := api.FFile{
		Package: "a.b",
		Imports: []string{"x", "y"},
		Enums:   []api.PEnum{{Name: "T", Values: []api.PValue{{Name: "X", N: 1}}}},
		Messages: []api.FMessage{{
			Name: "M",
			Fields: []api.FField{
				{Type: "int32", Name: "i", Num: 1},
				{Label: api.Optional, Type: ".a.N", Name: "o", Num: 16, Packed: 2},
				{Label: api.Repeated, Type: "sint64", Name: "r", Num: 3, Packed: 1},
				{Label: api.Mapped, Key: "string", Type: "N.E", Name: "m", Num: 4},
				{Type: "bool", Name: "b", Num: 5, Packed: 1, Oneof: 1},
				{Type: "N", Name: "n", Num: 6, Oneof: 1},
				{Type: "string", Name: "t", Num: 1<<64 - 1, Oneof: 2},
				{Type: "N", Name: "last"},
			},
			Oneofs: []string{"one", "two"},
			Messages: []api.FMessage{{Name: "In", Enums: []api.PEnum{{Name: "E", Values: []api.PValue{
				{Name: "A"}, {Name: "B", N: -1}, {Name: "C", N: -1 << 31}, {Name: "D", N: 1<<31 - 1}, {Name: "E"},
			}}}}},
			Enums: []api.PEnum{{Name: "Empty"}},
			Nums:  [][2]uint64{{7, 7}, {8, 9}, {10, api.MaxNum}},
			Names: []string{"p", "q_1"},
		}},
	}
	f, e, at := Parse(s)
	if e != api.OK || at != 0 || !reflect.DeepEqual(f, want) {
		t.Errorf("%+v %d %d", f, e, at)
	}
	if f, e, _ := Parse(head); e != api.OK || !reflect.DeepEqual(f, api.FFile{}) {
		t.Errorf("the empty file: %v %d", f, e)
	}
}

// P8.1: words of the language as names.
func TestWordsAsNames(t *testing.T) {
	for _, body := range []string{
		"int32 int32 = 1;", "string message = 1;", "optional map map = 1;", "repeated repeated repeated = 1;", "optional message x = 1;",
		"oneof oneof { int32 reserved = 1; }", "message message {}", "enum enum { enum = 0; }", ".map x = 1;", "map<int32, map> map = 1;",
		"syntax package = 1;", "to max = 1;", "packed true = 1 [packed=true];", "oneof o { oneofs optional = 1; import x = 2; }",
	} {
		if _, e, at := Parse(head + "message M {" + body + "}"); e != api.OK {
			t.Errorf("%s: %d %d", body, e, at)
		}
	}
}

// P8.1: errors; the mark ^ stands ahead of the word where each is met.
func TestParseErrors(t *testing.T) {
	for _, x := range []struct {
		s string
		e api.Errno
	}{
		{"^", api.ErrMalformed},
		{"^message M {}", api.ErrMalformed},
		{"syntax ^'proto3';", api.ErrMalformed},
		{"syntax = ^'proto2';", api.ErrMalformed},
		{"syntax = ^proto3;", api.ErrMalformed},
		{"syntax = 'proto3'^", api.ErrMalformed},
		{head + "^syntax = 'proto3';", api.ErrMalformed},
		{head + "^foo;", api.ErrMalformed},
		{head + "^.message M {}", api.ErrMalformed},
		{head + "^1", api.ErrMalformed},
		{head + "package ^.a;", api.ErrMalformed},
		{head + "package ^'a';", api.ErrMalformed},
		{head + "package a^}", api.ErrMalformed},
		{head + "package a ^message M {}", api.ErrMalformed},
		{head + "package a; message M {} ^package 1;", api.ErrTwice},
		{head + "import ^a;", api.ErrMalformed},
		{head + "import 'a'^", api.ErrMalformed},
		{head + "message ^a.b {}", api.ErrMalformed},
		{head + "message ^{}", api.ErrMalformed},
		{head + "message M ^;", api.ErrMalformed},
		{head + "message M {^", api.ErrMalformed},
		{head + "message M {} ^}", api.ErrMalformed},
		{head + "message M { ^= }", api.ErrMalformed},
		{head + "message M { ^'a' b = 1; }", api.ErrMalformed},
		{head + "message M { int32 ^a.b = 1; }", api.ErrMalformed},
		{head + "message M { int32 ^= 1; }", api.ErrMalformed},
		{head + "message M { int32 a ^1; }", api.ErrMalformed},
		{head + "message M { int32 a = ^b; }", api.ErrMalformed},
		{head + "message M { int32 a = ^-1; }", api.ErrMalformed},
		{head + "message M { int32 a = 1^}", api.ErrMalformed},
		{head + "message M { int32 a = 1 [^]; }", api.ErrMalformed},
		{head + "message M { int32 a = 1 [^deprecated=true]; }", api.ErrMalformed},
		{head + "message M { int32 a = 1 [packed ^true]; }", api.ErrMalformed},
		{head + "message M { int32 a = 1 [packed=^1]; }", api.ErrMalformed},
		{head + "message M { int32 a = 1 [packed=^'true']; }", api.ErrMalformed},
		{head + "message M { int32 a = 1 [packed=true^, packed=true]; }", api.ErrMalformed},
		{head + "message M { optional ^= 1; }", api.ErrMalformed},
		{head + "message M { optional optional a ^b = 1; }", api.ErrMalformed},
		{head + "message M { repeated map^<int32, int32> a = 1; }", api.ErrMalformed},
		{head + "message M { map ^x = 1; }", api.ErrMalformed},
		{head + "message M { map<^double, int32> a = 1; }", api.ErrMalformed},
		{head + "message M { map<^float, int32> a = 1; }", api.ErrMalformed},
		{head + "message M { map<^bytes, int32> a = 1; }", api.ErrMalformed},
		{head + "message M { map<^E, int32> a = 1; }", api.ErrMalformed},
		{head + "message M { map<int32 ^int32> a = 1; }", api.ErrMalformed},
		{head + "message M { map<int32, ^1> a = 1; }", api.ErrMalformed},
		{head + "message M { map<int32, int32 ^a = 1; }", api.ErrMalformed},
		{head + "message M { map<int32, int32> a = 1 ^[packed=true]; }", api.ErrMalformed},
		{head + "message M { map<int32, int32> a = 1 ^}", api.ErrMalformed},
		{head + "message M { message ^= 1; }", api.ErrMalformed},
		{head + "message M { message x ^= 1; }", api.ErrMalformed},
		{head + "message M { enum x ^= 1; }", api.ErrMalformed},
		{head + "message M { oneof x ^= 1; }", api.ErrMalformed},
		{head + "message M { reserved ^x = 1; }", api.ErrMalformed},
		{head + "message M { oneof o {^} }", api.ErrMalformed},
		{head + "message M { oneof o {^; int32 a = 1; } }", api.ErrMalformed},
		{head + "message M { oneof o { int32 a = 1; ^; } }", api.ErrMalformed},
		{head + "message M { oneof o { ^optional int32 a = 1; } }", api.ErrMalformed},
		{head + "message M { oneof o { ^repeated int32 a = 1; } }", api.ErrMalformed},
		{head + "message M { oneof o { ^map<int32, int32> a = 1; } }", api.ErrMalformed},
		{head + "message M { oneof o { int32 a = 1; ^message X {} } }", api.ErrMalformed},
		{head + "message M { oneof o { ^oneof x { int32 a = 1; } } }", api.ErrMalformed},
		{head + "message M { oneof o { ^reserved 1; } }", api.ErrMalformed},
		{head + "message M { oneof o { ^enum E {} } }", api.ErrMalformed},
		{head + "message M { oneof o {" + many(30, "A a=1;") + "^; } }", api.ErrMalformed},
		{head + "message M {" + many(30, "A a=1;") + "oneof o { ^map<int32, A> a=1; } }", api.ErrMalformed},
		{head + "message M { oneof ^a.b { int32 a = 1; } }", api.ErrMalformed},
		{head + "message M { reserved ^; }", api.ErrMalformed},
		{head + "message M { reserved 1, ^'a'; }", api.ErrMalformed},
		{head + "message M { reserved 'a', ^1; }", api.ErrMalformed},
		{head + "message M { reserved 'a', ^'b c'; }", api.ErrMalformed},
		{head + "message M { reserved ^''; }", api.ErrMalformed},
		{head + "message M { reserved ^'1a'; }", api.ErrMalformed},
		{head + "message M { reserved ^'a.b'; }", api.ErrMalformed},
		{head + "message M { reserved 1 to ^'a'; }", api.ErrMalformed},
		{head + "message M { reserved 1 to ^min; }", api.ErrMalformed},
		{head + "message M { reserved ^max; }", api.ErrMalformed},
		{head + "message M { reserved 1 ^2; }", api.ErrMalformed},
		{head + "message M { reserved 1,^; }", api.ErrMalformed},
		{head + "message M { reserved 1 ^}", api.ErrMalformed},
		{head + "enum ^a.b {}", api.ErrMalformed},
		{head + "enum E { ^a.b = 1; }", api.ErrMalformed},
		{head + "enum E { A ^1; }", api.ErrMalformed},
		{head + "enum E { A = ^; }", api.ErrMalformed},
		{head + "enum E { A = -^-1; }", api.ErrMalformed},
		{head + "enum E { A = 1^, }", api.ErrMalformed},
		{head + "enum E { A = ^2147483648 }", api.ErrLimit},
		{head + "enum E { A = - ^2147483649; }", api.ErrLimit},
		{head + "enum E { A = 0;^", api.ErrMalformed},
		{head + "enum E { A = 0 ^}", api.ErrMalformed},
		{head + "enum E {" + many(30, "A=0;") + "^1 = 1; }", api.ErrMalformed},
		{head + "enum E {" + many(30, "A=0;") + "^a.b = 1; }", api.ErrMalformed},
		{head + "enum E { A = 0; } message M { ^1a", api.ErrMalformed},
	} {
		at := strings.Index(x.s, "^")
		s := strings.Replace(x.s, "^", "", 1)
		f, e, where := Parse(s)
		if e != x.e || where != at || !reflect.DeepEqual(f, api.FFile{}) {
			t.Errorf("%s: %d at %d, not %d at %d", s, e, where, x.e, at)
		}
	}
	if _, e, at := Parse(head + " 1a ?"); e != api.ErrMalformed || at != len(head)+1 {
		t.Errorf("the words' error: %d %d", e, at)
	}
	if _, e, at := Parse("? " + strings.Repeat(" ", api.MaxText)); e != api.ErrLimit || at != 0 {
		t.Errorf("too long: %d %d", e, at)
	}
}

// many writes n parts, each of a form with a number in it.
func many(n int, form string) string {
	var b strings.Builder
	for i := range n {
		b.WriteString(strings.ReplaceAll(form, "#", fmt.Sprint(i)))
	}
	return b.String()
}

// P8.1: limits; the mark ^ stands ahead of the part that is one too many.
func TestLimits(t *testing.T) {
	deep := func(n int) string { return strings.Repeat("message M{", n) }
	for _, x := range [][3]string{
		{many(30, "import 'a';"), "import ?", ""},
		{many(30, "message M#{}"), "message 1", ""},
		{many(30, "enum E#{}"), "enum 1", ""},
		{"message M {" + many(30, "int32 a#=#;"), "int32 a=1;", "}"},
		{"message M {" + many(30, "int32 a#=#;"), "repeated 1", "}"},
		{"message M {" + many(30, "int32 a#=#;") + "oneof o {", "int32 a=1;", "}}"},
		{"message M { oneof o {" + many(30, "int32 a#=#;") + "}", "map", "}"},
		{"message M {" + many(30, "message M#{}"), "message 1", "}"},
		{"message M {" + many(30, "enum M#{}"), "enum 1", "}"},
		{"message M {" + many(15, "oneof M#{A a=1;}") + many(15, "oneof N#{A a=1;}"), "oneof 1", "}"},
		{"message M {reserved 100" + many(29, ",#") + ",", "1;", "}"},
		{"message M {reserved 100" + many(29, ",#") + "; reserved ", "1 to 'a'", "}"},
		{"message M {reserved 'x'" + many(29, ",'a#'") + ",", "'b'", "}"},
		{"message M {reserved 'x'" + many(14, ",'a#'") + "; reserved 1" + many(14, ",#") + "; reserved ", "'b'", "}"},
		{"message M {reserved 1" + many(14, ",#") + "; reserved 'x'" + many(14, ",'a#'") + "; reserved ", "2", ";}"},
		{"enum E {" + many(30, "A#=#;"), "A=1;", "}"},
		{deep(api.MaxDepth), "message M{}", strings.Repeat("}", api.MaxDepth)},
	} {
		full := strings.TrimSuffix(strings.TrimSuffix(x[0], ","), "; reserved ")
		if strings.Contains(full, "reserved") {
			full += ";"
		}
		if strings.HasSuffix(full, "oneof o {") {
			full = strings.TrimSuffix(full, "oneof o {")
		}
		tail := strings.Repeat("}", strings.Count(full, "{")-strings.Count(full, "}"))
		if _, e, at := Parse(head + full + tail); e != api.OK {
			t.Errorf("as many as may be: %s: %d %d", full, e, at)
		}
		s := strings.ReplaceAll(head+x[0]+x[1]+x[2], "?", "1")
		if _, e, at := Parse(s); e != api.ErrLimit || at != len(head+x[0]) {
			t.Errorf("%s: %d at %d, not at %d", s, e, at, len(head+x[0]))
		}
	}
}

// P8.1: what is not too much in one place.
func TestPlaces(t *testing.T) {
	for _, s := range []string{
		many(30, "message M#{}") + many(30, "enum E#{}"),
		many(4, "message M# {"+many(20, "Aa=1;")+"}"),
		many(4, "enum M# {"+many(28, "A=0;")+"}"),
		many(30, ";") + many(40, ";"),
	} {
		if _, e, at := Parse(head + strings.ReplaceAll(s, "Aa=1;", "A a=1;")); e != api.OK {
			t.Errorf("%s: %d %d", s, e, at)
		}
	}
}
