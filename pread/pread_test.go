package pread

import (
	"strings"
	"testing"

	"proclitic/api"
	"proclitic/pdec"
	"proclitic/penc"
	"proclitic/pname"
	"proclitic/prule"
	"proclitic/pval"
	"proclitic/rec"
)

func schema(t *testing.T, text string) api.PSchema {
	files, e, _, at := pname.Load([]api.Source{{Name: "a", Text: `syntax = "proto3"; ` + text}})
	if e != api.OK {
		t.Fatalf("%s: %d %d", text, e, at)
	}
	s, e, whole := prule.Schema(files)
	if e != api.OK {
		t.Fatalf("%s: %d %s", text, e, whole)
	}
	return s
}

func n(v int64) api.Val                 { return api.Val{N: uint64(v)} }
func tx(s string) api.Val               { return api.Val{S: s} }
func in(l ...api.Field) api.Val         { return api.Val{M: msg(l...)} }
func msg(l ...api.Field) api.Msg        { return api.Msg{Fields: l} }
func f(num int, l ...api.Val) api.Field { return api.Field{Num: num, L: l} }
func rest(s string, l ...api.Field) api.Msg {
	return api.Msg{Fields: l, Rest: s}
}
func num(k int, v uint64) string { return rec.Put(api.Record{Num: k, N: v}) }
func str(k int, l ...string) string {
	return rec.Put(api.Record{Num: k, Wire: api.WireText, S: strings.Join(l, "")})
}

const old = `message M { int32 a = 1; int64 b = 2; optional uint64 c = 3; oneof o { int64 d = 4; string e = 5; } repeated int64 f = 6; map<int32, int64> g = 7; M h = 8; repeated M i = 9; map<string, M> j = 10; E k = 11; sint64 l = 12; fixed32 m = 13; string s = 14; string gone = 20; M lost = 21; repeated int32 away = 22; }
enum E { A = 0; }`

const fresh = `message M { bool a = 1; int32 b = 2; uint32 c = 3; oneof o { bool d = 4; bytes e = 5; } repeated int32 f = 6; map<int32, bool> g = 7; N h = 8; repeated N i = 9; map<string, N> j = 10; int32 k = 11; sint32 l = 12; sfixed32 m = 13; bytes s = 14; int32 more = 30; }
message N { int32 a = 1; }`

// P19.1
func TestRead(t *testing.T) {
	o, r := schema(t, old), schema(t, fresh)
	for i, x := range []struct{ m, want api.Msg }{
		{api.Msg{}, api.Msg{}},
		{msg(f(1, n(300))), msg(f(1, n(1)))},
		{msg(f(1, n(-1)), f(2, n(-1))), msg(f(1, n(1)), f(2, n(-1)))},
		{msg(f(2, n(1<<32))), api.Msg{}},
		{msg(f(2, n(1<<32+7))), msg(f(2, n(7)))},
		{msg(f(2, n(1<<31))), msg(f(2, n(-1<<31)))},
		{msg(f(3, n(0))), api.Msg{}},
		{msg(f(3, n(5))), msg(f(3, n(5)))},
		{msg(f(4, n(0))), msg(f(4, n(0)))},
		{msg(f(4, n(1<<40))), msg(f(4, n(1)))},
		{msg(f(5, tx(""))), msg(f(5, tx("")))},
		{msg(f(6, n(0), n(1<<32), n(-1))), msg(f(6, n(0), n(0), n(-1)))},
		{msg(f(7, n(-1), n(1<<40), n(5), n(0))), msg(f(7, n(-1), n(1), n(5), n(0)))},
		{msg(f(8, in())), msg(f(8, in()))},
		{msg(f(8, in(f(1, n(5)), f(2, n(6))))), msg(f(8, api.Val{M: rest(num(2, 6), f(1, n(5)))}))},
		{msg(f(9, in(f(2, n(6))), in())), msg(f(9, api.Val{M: rest(num(2, 6))}, in()))},
		{msg(f(10, tx("k"), in(f(2, n(6))))), msg(f(10, tx("k"), api.Val{M: rest(num(2, 6))}))},
		{msg(f(11, n(-5))), msg(f(11, n(-5)))},
		{msg(f(12, n(-1))), msg(f(12, n(-1)))},
		{msg(f(12, n(1<<31))), api.Msg{}},
		{msg(f(13, n(1<<32-1))), msg(f(13, n(-1)))},
		{msg(f(14, tx("é"))), msg(f(14, tx("é")))},
		{rest(num(99, 1), f(20, tx("x")), f(21, in(f(1, n(1)))), f(22, n(1), n(2))), rest(str(20, "x") + str(21, num(1, 1)) + str(22, "\x01\x02") + num(99, 1))},
		{msg(f(21, api.Val{M: rest(num(30, 1))})), rest(str(21, num(30, 1)))},
		{rest(str(99, strings.Repeat("a", api.MaxBytes-4))), rest(str(99, strings.Repeat("a", api.MaxBytes-4)))},
		{msg(f(8, api.Val{M: rest(num(30, 1), f(1, n(1)))})), msg(f(8, api.Val{M: rest(num(30, 1), f(1, n(1)))}))},
	} {
		got, e := Read(o, r, "M", "M", x.m)
		if e != api.OK || !pval.Same(got, x.want) || !pval.Fits(r, "M", got) {
			t.Errorf("%d: %v: %v %d", i, x.m, got, e)
		}
		// it is what b reads of what a writes
		b, e := penc.Encode(o, "M", x.m)
		if e != api.OK {
			t.Errorf("%d: %d", i, e)
		}
		if read, e := pdec.Decode(r, "M", b); e != api.OK || !pval.Same(read, got) {
			t.Errorf("%d: %v is read as %v", i, x.m, read)
		}
	}
}

// P19.1
func TestReadErrors(t *testing.T) {
	o, r := schema(t, old), schema(t, fresh)
	long := strings.Repeat("a", api.MaxBytes-10)
	for i, x := range []struct {
		a, b string
		m    api.Msg
		e    api.Errno
	}{
		{"M", "X", msg(f(1, n(0))), api.ErrCompat},
		{"X", "M", api.Msg{}, api.ErrCompat},
		{"M", "M", msg(f(1, n(0))), api.ErrType},
		{"M", "M", rest(num(30, 1), f(1, n(0))), api.ErrType},
		{"M", "M", rest(num(30, 1)), api.ErrArg},
		{"M", "M", rest(str(30, "a")), api.ErrArg},
		{"M", "M", rest(num(99, 1) + num(30, 1)), api.ErrArg},
		{"M", "M", rest(str(1, "a")), api.ErrArg},
		{"M", "M", msg(f(8, api.Val{M: rest(str(1, "a"))})), api.ErrArg},
		{"M", "M", msg(f(9, in(), api.Val{M: rest(str(1, "a"))})), api.ErrArg},
		{"M", "M", msg(f(10, tx(""), api.Val{M: rest(str(1, "a"))})), api.ErrArg},
		{"M", "M", msg(f(20, tx(long+"more than that"))), api.ErrLimit},
		{"M", "M", rest(str(99, long), f(20, tx(long))), api.ErrLimit},
		{"M", "M", msg(f(9, api.Val{M: rest("", f(20, tx(long+"more than that")))}, api.Val{M: rest(str(1, "a"))})), api.ErrArg},
	} {
		got, e := Read(o, r, x.a, x.b, x.m)
		if e != x.e || !pval.Same(got, api.Msg{}) {
			t.Errorf("%d: %v %d", i, got, e)
		}
	}
	if _, e := Read(r, o, "M", "M", api.Msg{}); e != api.ErrCompat {
		t.Errorf("bytes as a string: %d", e)
	}
}
