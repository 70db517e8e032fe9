package penc

import (
	"math"
	"strings"
	"testing"

	"proclitic/api"
	"proclitic/pdec"
	"proclitic/pname"
	"proclitic/prule"
	"proclitic/pval"
	"proclitic/rec"
)

const text = `syntax = "proto3";
message M {
  int32 i = 1; string s = 2; bytes y = 3; bool b = 4; M m = 5; E e = 6; float f = 7; sint64 u = 8; double d = 9; sfixed32 sf = 10;
  optional int32 oi = 11; optional string os = 12; optional M om = 13; uint32 u32 = 14; sfixed64 sl = 15; fixed64 fl = 16;
  repeated sint32 ri = 21; repeated string rs = 22; repeated M rm = 23; repeated fixed32 rf = 24 [packed=false]; repeated double rd = 25; repeated E re = 26; repeated bool rb = 27;
  map<sint32, string> mi = 31; map<string, M> ms = 32; map<bool, E> mb = 33;
  oneof xx { int32 xi = 41; string xs = 42; M xm = 43; }
}
enum E { ZERO = 0; ONE = 1; }
`

func schema(t *testing.T, text string) api.PSchema {
	files, e, _, at := pname.Load([]api.Source{{Name: "a", Text: text}})
	if e != api.OK {
		t.Fatalf("%d %d", e, at)
	}
	s, e, whole := prule.Schema(files)
	if e != api.OK {
		t.Fatalf("%d %s", e, whole)
	}
	return s
}

func n(v int64) api.Val                 { return api.Val{N: uint64(v)} }
func tx(s string) api.Val               { return api.Val{S: s} }
func in(l ...api.Field) api.Val         { return api.Val{M: msg(l...)} }
func msg(l ...api.Field) api.Msg        { return api.Msg{Fields: l} }
func f(num int, l ...api.Val) api.Field { return api.Field{Num: num, L: l} }

func num(k int, v uint64) string { return rec.Put(api.Record{Num: k, N: v}) }
func f4(k int, v uint64) string  { return rec.Put(api.Record{Num: k, Wire: api.WireFixed4, N: v}) }
func f8(k int, v uint64) string  { return rec.Put(api.Record{Num: k, Wire: api.WireFixed8, N: v}) }
func str(k int, l ...string) string {
	return rec.Put(api.Record{Num: k, Wire: api.WireText, S: strings.Join(l, "")})
}

// P17.1
func TestEncode(t *testing.T) {
	s := schema(t, text)
	for i, x := range []struct {
		m    api.Msg
		want string
	}{
		{api.Msg{}, ""},
		{msg(f(1, n(150))), "\x08\x96\x01"},
		{msg(f(1, n(-1)), f(6, n(-2))), "\x08\xff\xff\xff\xff\xff\xff\xff\xff\xff\x01" + "\x30\xfe\xff\xff\xff\xff\xff\xff\xff\xff\x01"},
		{msg(f(2, tx("é")), f(3, tx("\xff")), f(4, n(1))), "\x12\x02é\x1a\x01\xff\x20\x01"},
		{msg(f(7, n(1<<31)), f(8, n(-2)), f(9, n(-1)), f(10, n(-1))), "\x3d\x00\x00\x00\x80" + "\x40\x03" + f8(9, math.MaxUint64) + "\x55\xff\xff\xff\xff"},
		{msg(f(14, n(1<<32-1)), f(15, n(-1)), f(16, n(-1))), num(14, 1<<32-1) + f8(15, math.MaxUint64) + f8(16, math.MaxUint64)},
		{msg(f(5, in())), "\x2a\x00"},
		{msg(f(5, in(f(1, n(1)), f(5, in(f(2, tx("a"))))))), str(5, num(1, 1), str(5, str(2, "a")))},
		{msg(f(11, n(0)), f(12, tx("")), f(13, in())), num(11, 0) + str(12) + str(13)},
		{msg(f(21, n(0), n(-1), n(300))), str(21, "\x00\x01\xd8\x04")},
		{msg(f(22, tx("a"), tx(""))), str(22, "a") + str(22)},
		{msg(f(23, in(), in(f(1, n(1))))), str(23) + str(23, num(1, 1))},
		{msg(f(24, n(1), n(2))), f4(24, 1) + f4(24, 2)},
		{msg(f(25, n(1), n(-1))), str(25, "\x01\x00\x00\x00\x00\x00\x00\x00\xff\xff\xff\xff\xff\xff\xff\xff")},
		{msg(f(26, n(-1), n(1)), f(27, n(1), n(0))), str(26, "\xff\xff\xff\xff\xff\xff\xff\xff\xff\x01\x01") + str(27, "\x01\x00")},
		{msg(f(31, n(-1), tx(""), n(0), tx("a"))), str(31, num(1, 1), str(2)) + str(31, num(1, 0), str(2, "a"))},
		{msg(f(32, tx(""), in(), tx("k"), in(f(1, n(1))))), str(32, str(1), str(2)) + str(32, str(1, "k"), str(2, num(1, 1)))},
		{msg(f(33, n(0), n(0))), str(33, num(1, 0), num(2, 0))},
		{msg(f(41, n(0))), num(41, 0)},
		{msg(f(42, tx(""))), str(42)},
		{msg(f(43, in())), str(43)},
		{api.Msg{Fields: []api.Field{f(41, n(1))}, Rest: num(99, 1) + "\xa0\x86\x80\x00\x05"}, num(41, 1) + num(99, 1) + "\xa0\x86\x80\x00\x05"},
		{msg(f(5, api.Val{M: api.Msg{Rest: num(99, 1)}}), f(6, n(1))), str(5, num(99, 1)) + num(6, 1)},
	} {
		b, e := Encode(s, "M", x.m)
		if e != api.OK || string(b) != x.want {
			t.Errorf("%d: %v: %x %d", i, x.m, b, e)
		}
		if back, e := pdec.Decode(s, "M", b); e != api.OK || !pval.Same(back, x.m) {
			t.Errorf("%d: %v is decoded as %v %d", i, x.m, back, e)
		}
	}
}

// P17.1
func TestEncodeErrors(t *testing.T) {
	s := schema(t, text)
	long := func(n int) api.Val { return tx(strings.Repeat("a", n)) }
	for i, x := range []struct {
		m api.Msg
		e api.Errno
	}{
		{msg(f(1, n(0))), api.ErrType},
		{msg(f(1, n(1<<40))), api.ErrType},
		{msg(f(2, tx("\xff"))), api.ErrType},
		{msg(f(99, n(1))), api.ErrType},
		{api.Msg{Rest: num(1, 1)}, api.ErrType},
		{msg(f(2, long(api.MaxBytes-3))), api.OK},
		{msg(f(2, long(api.MaxBytes-2))), api.ErrLimit},
		{msg(f(2, long(api.MaxBytes-5)), f(5, in())), api.OK},
		{msg(f(2, long(api.MaxBytes-4)), f(5, in())), api.ErrLimit},
		{msg(f(5, in(f(2, long(api.MaxBytes-6))))), api.OK},
		{msg(f(5, in(f(2, long(api.MaxBytes-5))))), api.ErrLimit},
		{msg(f(2, long(api.MaxBytes)), f(1, n(1))), api.ErrType},
		{msg(f(31, n(1), long(api.MaxBytes))), api.ErrLimit},
		{msg(f(32, tx("k"), in(f(2, long(api.MaxBytes))))), api.ErrLimit},
		{msg(f(22, long(api.MaxBytes), tx("\xff"))), api.ErrType},
		{api.Msg{Fields: []api.Field{f(2, long(api.MaxBytes-6))}, Rest: num(99, 1)}, api.OK},
		{api.Msg{Fields: []api.Field{f(2, long(api.MaxBytes-5))}, Rest: num(99, 1)}, api.ErrLimit},
	} {
		b, e := Encode(s, "M", x.m)
		if e != x.e || e != api.OK && b != nil {
			t.Errorf("%d: %d, not %d (%d bytes)", i, e, x.e, len(b))
		}
	}
	if b, e := Encode(s, "E", msg(f(1, n(0)))); e != api.ErrArg || b != nil {
		t.Errorf("of no message: %d", e)
	}
	many := make([]api.Val, api.MaxBytes)
	if b, e := Encode(s, "M", msg(f(21, many...))); e != api.ErrLimit || b != nil {
		t.Errorf("packed: %d", e)
	}
	deep := in()
	for range 1 << 15 {
		deep = in(f(5, deep))
	}
	if b, e := Encode(s, "M", deep.M); e != api.ErrLimit || b != nil {
		t.Errorf("deep: %d", e)
	}
}
