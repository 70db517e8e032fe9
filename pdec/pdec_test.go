package pdec

import (
	"strings"
	"testing"

	"proclitic/api"
	"proclitic/pname"
	"proclitic/prule"
	"proclitic/pval"
	"proclitic/rec"
)

const text = `syntax = "proto3";
message M {
  int32 i = 1; string s = 2; bytes y = 3; bool b = 4; M m = 5; E e = 6; float f = 7; sint64 u = 8;
  optional int32 oi = 11; optional string os = 12; optional M om = 13;
  repeated sint32 ri = 21; repeated string rs = 22; repeated M rm = 23; repeated fixed32 rf = 24 [packed=false]; repeated double rd = 25;
  map<sint32, string> mi = 31; map<string, M> ms = 32; map<bool, E> mb = 33;
  oneof xx { int32 xi = 41; string xs = 42; M xm = 43; }
}
enum E { ZERO = 0; ONE = 1; }
`

func schema(t *testing.T, text string) api.PSchema {
	files, e, _, at := pname.Load([]api.Source{{Name: "a", Text: text}})
	if e != api.OK {
		t.Fatalf("%d %d", e, at)
	}
	s, e, whole := prule.Schema(files)
	if e != api.OK {
		t.Fatalf("%d %s", e, whole)
	}
	return s
}

func n(v int64) api.Val                 { return api.Val{N: uint64(v)} }
func tx(s string) api.Val               { return api.Val{S: s} }
func in(l ...api.Field) api.Val         { return api.Val{M: msg(l...)} }
func msg(l ...api.Field) api.Msg        { return api.Msg{Fields: l} }
func f(num int, l ...api.Val) api.Field { return api.Field{Num: num, L: l} }

// num, f4, f8, str write records.
func num(k int, v uint64) string { return rec.Put(api.Record{Num: k, N: v}) }
func f4(k int, v uint64) string  { return rec.Put(api.Record{Num: k, Wire: api.WireFixed4, N: v}) }
func f8(k int, v uint64) string  { return rec.Put(api.Record{Num: k, Wire: api.WireFixed8, N: v}) }
func str(k int, l ...string) string {
	return rec.Put(api.Record{Num: k, Wire: api.WireText, S: strings.Join(l, "")})
}

// P16.1
func TestDecode(t *testing.T) {
	s := schema(t, text)
	minus := ^uint64(0)
	for i, x := range []struct {
		b    string
		want api.Msg
	}{
		{"", api.Msg{}},
		{num(1, 150), msg(f(1, n(150)))},
		{num(1, 1<<32+5), msg(f(1, n(5)))},
		{num(1, minus), msg(f(1, n(-1)))},
		{num(1, 0xffffffff), msg(f(1, n(-1)))},
		{num(1, 5) + num(1, 0), api.Msg{}},
		{num(1, 1<<32), api.Msg{}},
		{num(1, 0) + num(1, 7), msg(f(1, n(7)))},
		{"\x88\x00\x87\x00", msg(f(1, n(7)))},
		{num(4, 1<<40), msg(f(4, n(1)))},
		{num(8, 3) + num(6, 9) + f4(7, 1<<31), msg(f(6, n(9)), f(7, n(1<<31)), f(8, n(-2)))},
		{str(2, "é") + str(3, "\xff"), msg(f(2, tx("é")), f(3, tx("\xff")))},
		{str(2, "a") + str(2) + str(3, "a") + str(3), api.Msg{}},
		{num(11, 0) + str(12) + str(13), msg(f(11, n(0)), f(12, tx("")), f(13, in()))},
		{str(5), msg(f(5, in()))},
		{str(5, num(1, 0)), msg(f(5, in()))},
		// several S of one message are as one
		{str(5, num(1, 1), str(2, "a")) + str(5, num(1, 2), num(21, 2)), msg(f(5, in(f(1, n(2)), f(2, tx("a")), f(21, n(1)))))},
		{str(5, num(1, 1)) + str(5, num(1, 0)), msg(f(5, in()))},
		{str(13, num(1, 1)) + str(13, str(2, "b")), msg(f(13, in(f(1, n(1)), f(2, tx("b")))))},
		{str(5, num(41, 1)) + str(5, str(42, "a")), msg(f(5, in(f(42, tx("a")))))},
		{str(5, num(9, 1)) + str(5, num(9, 2)), msg(f(5, api.Val{M: api.Msg{Rest: num(9, 1) + num(9, 2)}}))},
		// repeated ones
		{num(21, 1) + str(21, "\x03\x80\x00") + str(21) + num(21, 0), msg(f(21, n(-1), n(-2), n(0), n(0)))},
		{str(21), api.Msg{}},
		{str(24, "\x01\x00\x00\x00\x02\x00\x00\x00") + f4(24, 3), msg(f(24, n(1), n(2), n(3)))},
		{f8(25, 1) + str(25, "\x00\x00\x00\x00\x00\x00\x00\x80"), msg(f(25, n(1), n(-1<<63)))},
		{str(22, "a") + str(22) + str(22, "a"), msg(f(22, tx("a"), tx(""), tx("a")))},
		{str(23, num(1, 1)) + str(23), msg(f(23, in(f(1, n(1))), in()))},
		// maps
		{str(31, num(1, 3), str(2, "b")) + str(31, num(1, 2), str(2, "a")) + str(31, num(1, 1), str(2, "c")), msg(f(31, n(-2), tx("b"), n(-1), tx("c"), n(1), tx("a")))},
		{str(31), msg(f(31, n(0), tx("")))},
		{str(31, str(2, "a"), num(1, 2), str(2, "b"), num(1, 4)), msg(f(31, n(2), tx("b")))},
		{str(31, num(1, 2), str(2, "a")) + str(31, num(1, 2)), msg(f(31, n(1), tx("")))},
		{str(31, str(1, "x"), num(2, 5), num(3, 1), f4(1, 1), num(1, 2)), msg(f(31, n(1), tx("")))},
		{str(31, str(2, "a"), num(2, 5), str(3, "z"), num(3, 4)), msg(f(31, n(0), tx("a")))},
		{str(31, num(1, 2), str(1, "z")), msg(f(31, n(1), tx("")))},
		{str(32, str(1, "k")), msg(f(32, tx("k"), in()))},
		{str(32, str(2, num(1, 1)), str(1, "k"), str(2, num(11, 2))), msg(f(32, tx("k"), in(f(1, n(1)), f(11, n(2)))))},
		{str(32, str(1, "k"), str(2, num(1, 1))) + str(32, str(1, "k"), str(2, num(11, 2))), msg(f(32, tx("k"), in(f(11, n(2)))))},
		{str(33, num(1, 2), num(2, 5)) + str(33, num(2, 0)), msg(f(33, n(0), n(0), n(1), n(5)))},
		// oneofs
		{num(41, 0), msg(f(41, n(0)))},
		{num(41, 5) + str(42), msg(f(42, tx("")))},
		{str(42, "a") + num(41, 5) + num(41, 6), msg(f(41, n(6)))},
		{str(43, num(1, 1)) + num(41, 5) + str(43, str(2, "a")), msg(f(43, in(f(2, tx("a")))))},
		{str(43, num(1, 1)) + str(41, "a") + str(43, str(2, "a")), api.Msg{Fields: []api.Field{f(43, in(f(1, n(1)), f(2, tx("a"))))}, Rest: str(41, "a")}},
		// what is not known
		{num(9, 1) + num(1, 1) + str(1, "a") + f4(2, 1) + f8(21, 1) + num(31, 1) + num(24, 1) + "\x90\x80\x00\x05",
			api.Msg{Fields: []api.Field{f(1, n(1))}, Rest: num(9, 1) + str(1, "a") + f4(2, 1) + f8(21, 1) + num(31, 1) + num(24, 1) + "\x90\x80\x00\x05"}},
	} {
		got, e := Decode(s, "M", []byte(x.b))
		if e != api.OK || !pval.Same(got, x.want) || !pval.Fits(s, "M", got) {
			t.Errorf("%d: %x: %v %d", i, x.b, got, e)
		}
	}
}

// P16.1
func TestDecodeErrors(t *testing.T) {
	s := schema(t, text)
	for i, x := range []struct {
		b string
		e api.Errno
	}{
		{"\x08", api.ErrMalformed},
		{num(1, 1) + "\x00", api.ErrMalformed},
		{str(2, "\xff"), api.ErrMalformed},
		{str(2, "\xff") + str(2, "a"), api.ErrMalformed},
		{str(22, "a") + str(22, "\xc3"), api.ErrMalformed},
		{str(9, "\xff") + str(3, "\xff"), api.OK},
		{str(5, "\x08"), api.ErrMalformed},
		{str(5, "\x08") + str(5, "\x01"), api.ErrMalformed},
		{str(5, "\x12\x01") + str(5, "a"), api.ErrMalformed},
		{str(9, "\x08"), api.OK},
		{str(43, str(2, "\xff")) + num(41, 1), api.ErrMalformed},
		{str(21, "\x80"), api.ErrMalformed},
		{str(21, "\x01\xff\xff\xff\xff\xff\xff\xff\xff\xff\x02"), api.ErrMalformed},
		{str(24, "\x01\x00\x00\x00\x02\x00\x00"), api.ErrMalformed},
		{str(25, "\x01\x00\x00\x00"), api.ErrMalformed},
		{str(31, "\x08"), api.ErrMalformed},
		{str(31, str(2, "\xff")), api.ErrMalformed},
		{str(31, str(2, "\xff"), str(2, "a")), api.ErrMalformed},
		{str(32, str(1, "\xff")), api.ErrMalformed},
		{str(32, str(2, "\x00")), api.ErrMalformed},
		{strings.Repeat(" ", api.MaxBytes+1), api.ErrLimit},
	} {
		m, e := Decode(s, "M", []byte(x.b))
		if e != x.e || e != api.OK && !pval.Same(m, api.Msg{}) {
			t.Errorf("%d: %x: %v %d", i, x.b, m, e)
		}
	}
	if _, e := Decode(s, "N", []byte(strings.Repeat(" ", api.MaxBytes+1))); e != api.ErrArg {
		t.Errorf("of no message: %d", e)
	}
}

// nest writes a text within a text, n times.
func nest(n int, inner string, wrap func(string) string) string {
	for range n {
		inner = wrap(inner)
	}
	return inner
}

// P16.1
func TestDepth(t *testing.T) {
	s := schema(t, text)
	single := func(s string) string { return str(5, s) }
	many := func(s string) string { return str(23, s) }
	entry := func(s string) string { return str(32, str(2, s)) }
	for i, x := range []struct {
		b string
		e api.Errno
	}{
		{nest(19, "", single), api.OK},
		{nest(20, "", single), api.ErrLimit},
		{nest(20, "\x00", single), api.ErrLimit},
		{nest(19, "\x00", single), api.ErrMalformed},
		{nest(19, "", many), api.OK},
		{nest(20, "", many), api.ErrLimit},
		{nest(9, "", entry), api.OK},
		{nest(9, str(31), entry), api.OK},
		{nest(9, str(32, str(2)), entry), api.ErrLimit},
		{nest(9, str(5, str(31)), entry), api.ErrLimit},
		{nest(18, str(31), single), api.OK},
		{nest(19, str(31), single), api.ErrLimit},
		{nest(18, str(32), single), api.OK},
		{nest(18, str(32, str(2)), single), api.ErrLimit},
		{"\x0a" + nest(20, "", single), api.ErrMalformed},
		{str(2, "\xff") + nest(20, "", single), api.ErrMalformed},
		{nest(20, "", single) + str(2, "\xff"), api.ErrLimit},
	} {
		if _, e := Decode(s, "M", []byte(x.b)); e != x.e {
			t.Errorf("%d: %d, not %d", i, e, x.e)
		}
	}
}

// P16.1
func TestCount(t *testing.T) {
	s := schema(t, text)
	part := func(n int, p string) string { return strings.Repeat(p, n) }
	for i, x := range []struct {
		b string
		e api.Errno
	}{
		{str(21, part(2000, "\x00")), api.OK},
		{str(21, part(2001, "\x00")), api.ErrLimit},
		{part(2000, num(1, 1)), api.OK},
		{part(2001, num(1, 1)), api.ErrLimit},
		{part(2400, num(9, 1)), api.OK},
		{str(21, part(1999, "\x00")) + str(5), api.OK},
		{str(21, part(1999, "\x00")) + str(5, num(1, 1)), api.ErrLimit},
		{str(21, part(1999, "\x00")) + str(5) + str(5), api.ErrLimit},
		{str(21, part(1999, "\x00")) + str(31, str(2, "a")), api.OK},
		{str(21, part(2000, "\x00")) + str(31), api.OK},
		{str(21, part(1999, "\x00")) + str(31, str(2, "a"), num(1, 1)), api.ErrLimit},
		{str(21, part(1999, "\x00")) + str(31, num(1, 1), num(1, 1)), api.ErrLimit},
		{str(21, part(1998, "\x00")) + str(32, str(1, "a"), str(2)), api.OK},
		{str(21, part(1998, "\x00")) + str(32, str(1, "a"), str(2, num(1, 1))), api.ErrLimit},
		{str(21, part(2000, "\x00")) + num(41, 1), api.ErrLimit},
		{str(21, part(1999, "\x00")) + num(41, 1) + str(42), api.ErrLimit},
		{str(21, part(2001, "\x00"), "\x80"), api.ErrLimit},
		{str(21, part(1999, "\x00"), "\x80"), api.ErrMalformed},
		// what is no value does not count
		{str(21, part(2000, "\x00"), "\x80"), api.ErrMalformed},
		{str(21, part(2000, "\x00"), "\x80") + str(21, "\x80"), api.ErrMalformed},
		{str(21, part(2000, "\x00"), "\x80\x80\x80\x80\x80\x80\x80\x80\x80\x02"), api.ErrMalformed},
		{str(21, part(2000, "\x00"), "\x00\x80"), api.ErrLimit},
		{str(21, part(2000, "\x00")) + str(21), api.OK},
		{str(21, part(2000, "\x00")) + str(21, "\x80"), api.ErrMalformed},
		{str(21, part(2000, "\x00")) + str(21, "\x00"), api.ErrLimit},
		{str(21, part(2000, "\x00")) + str(24, "\x00\x00\x00"), api.ErrMalformed},
		{str(21, part(2000, "\x00")) + str(24, "\x00\x00\x00\x00"), api.ErrLimit},
		{str(21, part(2000, "\x00")) + str(25, "\x00\x00\x00\x00\x00\x00\x00"), api.ErrMalformed},
		{str(21, part(2000, "\x00")) + str(25, "\x00\x00\x00\x00\x00\x00\x00\x00"), api.ErrLimit},
		{str(21, part(2000, "\x00")) + str(2, "\xff"), api.ErrMalformed},
		{str(21, part(2000, "\x00")) + str(2, "a"), api.ErrLimit},
		{str(21, part(2000, "\x00")) + str(3, "\xff"), api.ErrLimit},
		{str(21, part(2000, "\x00")) + str(22, "\xff"), api.ErrMalformed},
		{str(21, part(2000, "\x00")) + str(31, str(2, "\xff")), api.ErrMalformed},
		{str(21, part(2000, "\x00")) + str(32, str(1, "\xff")), api.ErrMalformed},
		{str(21, part(2000, "\x00")) + str(31, "\x08"), api.ErrMalformed},
		// the first error counts
		{str(21, part(2000, "\x00")) + str(2, "a") + str(2, "\xff"), api.ErrLimit},
		{str(21, part(2000, "\x00")) + num(1, 1) + str(21, "\x80"), api.ErrLimit},
		{str(21, part(2000, "\x00")) + str(5, str(2, "\xff")), api.ErrLimit},
		{str(21, part(1999, "\x00")) + str(5, str(2, "\xff")), api.ErrMalformed},
	} {
		if _, e := Decode(s, "M", []byte(x.b)); e != x.e {
			t.Errorf("%d: %d, not %d", i, e, x.e)
		}
	}
}

// R1, R3
func TestOddSchemas(t *testing.T) {
	for _, p := range []api.PField{{Num: 1}, {Num: 1, Kind: 99, Label: 99}, {Num: 1, Kind: api.KMessage, Type: "none"}, {Num: 1, Kind: api.KMessage, Label: api.Mapped, Type: "none", Key: api.KMessage}, {Num: 1, Kind: api.KString, Label: api.Mapped, Key: api.KMessage}, {Num: 1, Oneof: -1, Kind: api.KInt32}} {
		s := api.PSchema{Messages: []api.PMessage{{Name: "M", Fields: []api.PField{p, p}}}}
		for _, b := range []string{num(1, 1), str(1, str(1), str(2)), str(1)} {
			Decode(s, "M", []byte(b))
		}
	}
	s := schema(t, text)
	b := []byte(str(2, "abc") + num(9, 1))
	m, _ := Decode(s, "M", b)
	clear(b)
	if m.Fields[0].L[0].S != "abc" || m.Rest != num(9, 1) {
		t.Error("what is told hangs on the argument's memory")
	}
}
