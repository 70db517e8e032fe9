package mtree

import (
	"testing"

	"proclitic/api"
	"proclitic/path"
	"proclitic/pname"
	"proclitic/prule"
	"proclitic/pval"
)

const text = `syntax = "proto3";
message M { int32 i = 1; string s = 2; M m = 3; optional int32 oi = 4; repeated int32 r = 5; map<int32, string> p = 6; repeated M rm = 7; map<string, M> pm = 8;
  oneof one { int32 a = 11; string b = 12; M c = 13; M d = 14; } oneof two { int32 e = 15; int32 f = 16; } }`

func schema(t *testing.T) api.PSchema {
	files, e, _, at := pname.Load([]api.Source{{Name: "a", Text: text}})
	if e != api.OK {
		t.Fatalf("%d %d", e, at)
	}
	s, e, whole := prule.Schema(files)
	if e != api.OK {
		t.Fatalf("%d %s", e, whole)
	}
	return s
}

func mask(t *testing.T, text string) api.Mask {
	m, e := path.Parse(text)
	if e != api.OK {
		t.Fatalf("%s: %d", text, e)
	}
	return m
}

func n(v int64) api.Val                 { return api.Val{N: uint64(v)} }
func tx(s string) api.Val               { return api.Val{S: s} }
func in(l ...api.Field) api.Val         { return api.Val{M: msg(l...)} }
func msg(l ...api.Field) api.Msg        { return api.Msg{Fields: l} }
func f(num int, l ...api.Val) api.Field { return api.Field{Num: num, L: l} }
func rest(s string, l ...api.Field) api.Msg {
	return api.Msg{Fields: l, Rest: s}
}

const x1, x2 = "\xf8\x01\x01", "\xf8\x01\x02" // records that are not known

// P26.1
func TestProject(t *testing.T) {
	s := schema(t)
	full := rest(x1, f(1, n(1)), f(2, tx("a")), f(3, api.Val{M: rest(x2, f(1, n(2)), f(3, in(f(1, n(3)))))}), f(4, n(0)), f(5, n(1), n(2)), f(6, n(1), tx("x")), f(13, in(f(1, n(1)))))
	for text, want := range map[string]api.Msg{
		"":              {},
		"i":             msg(f(1, n(1))),
		"i,s,oi,r,p":    msg(f(1, n(1)), f(2, tx("a")), f(4, n(0)), f(5, n(1), n(2)), f(6, n(1), tx("x"))),
		"m":             msg(f(3, api.Val{M: rest(x2, f(1, n(2)), f(3, in(f(1, n(3)))))})),
		"m.i":           msg(f(3, in(f(1, n(2))))),
		"m.s":           msg(f(3, in())),
		"m.m.s,m.i":     msg(f(3, in(f(1, n(2)), f(3, in())))),
		"m.m.m.i":       msg(f(3, in(f(3, in())))),
		"d,d.i,a,rm,pm": {},
		"c.i":           msg(f(13, in(f(1, n(1))))),
	} {
		got, e := Project(s, "M", mask(t, text), full)
		if e != api.OK || !pval.Same(got, want) || !pval.Fits(s, "M", got) {
			t.Errorf("%s: %v %d", text, got, e)
		}
	}
	bare := full
	bare.Rest = ""
	if got, e := Project(s, "M", mask(t, "i,s,m,oi,r,p,rm,pm,a,b,c,d,e,f"), bare); e != api.OK || !pval.Same(got, bare) {
		t.Errorf("by all: %v %d", got, e)
	} else {
		got.Fields[2].L[0].M.Fields[0].L[0].N = 9
		if full.Fields[2].L[0].M.Fields[0].L[0].N == 9 {
			t.Error("what is told is the argument's memory")
		}
	}
	for _, x := range []struct {
		name, mask string
		v          api.Msg
		e          api.Errno
	}{
		{"M", "x", msg(f(1, n(0))), api.ErrMask},
		{"X", "", api.Msg{}, api.ErrMask},
		{"M", "i.x", api.Msg{}, api.ErrMask},
		{"M", "i", msg(f(1, n(0))), api.ErrType},
	} {
		if got, e := Project(s, x.name, mask(t, x.mask), x.v); e != x.e || !pval.Same(got, api.Msg{}) {
			t.Errorf("%v: %v %d", x, got, e)
		}
	}
}

// P26.2
func TestMerge(t *testing.T) {
	s := schema(t)
	for i, x := range []struct {
		mask       string
		d, v, want api.Msg
	}{
		{"", rest(x1, f(1, n(1))), rest(x2, f(1, n(2))), rest(x1, f(1, n(1)))},
		{"i", rest(x1, f(1, n(1)), f(2, tx("a"))), rest(x2, f(1, n(2)), f(2, tx("b"))), rest(x1, f(1, n(2)), f(2, tx("a")))},
		{"i,s,oi", msg(f(1, n(1)), f(2, tx("a")), f(4, n(1))), api.Msg{}, api.Msg{}},
		{"i,oi", api.Msg{}, msg(f(1, n(1)), f(4, n(0))), msg(f(1, n(1)), f(4, n(0)))},
		{"r", msg(f(5, n(1))), msg(f(5, n(0), n(2))), msg(f(5, n(1), n(0), n(2)))},
		{"r", msg(f(5, n(1))), api.Msg{}, msg(f(5, n(1)))},
		{"p", msg(f(6, n(-1), tx("a"), n(1), tx("b"))), msg(f(6, n(0), tx("c"), n(1), tx("d"))), msg(f(6, n(-1), tx("a"), n(0), tx("c"), n(1), tx("d")))},
		{"p,rm,pm", api.Msg{}, msg(f(6, n(0), tx("c")), f(7, in()), f(8, tx(""), in())), msg(f(6, n(0), tx("c")), f(7, in()), f(8, tx(""), in()))},
		{"m", msg(f(3, api.Val{M: rest(x1, f(1, n(1)), f(2, tx("a")))})), msg(f(3, api.Val{M: rest(x2, f(1, n(2)), f(5, n(1)))})), msg(f(3, api.Val{M: rest(x1+x2, f(1, n(2)), f(2, tx("a")), f(5, n(1)))}))},
		{"m", msg(f(3, in(f(1, n(1))))), api.Msg{}, msg(f(3, in(f(1, n(1)))))},
		{"m", api.Msg{}, msg(f(3, api.Val{M: rest(x2)})), msg(f(3, api.Val{M: rest(x2)}))},
		{"m.i", msg(f(3, api.Val{M: rest(x1, f(1, n(1)), f(2, tx("a")))})), msg(f(3, api.Val{M: rest(x2, f(1, n(2)), f(2, tx("b")))})), msg(f(3, api.Val{M: rest(x1, f(1, n(2)), f(2, tx("a")))}))},
		{"m.i", msg(f(3, in(f(1, n(1)), f(2, tx("a"))))), msg(f(3, in())), msg(f(3, in(f(2, tx("a")))))},
		{"m.i", msg(f(3, in(f(1, n(1))))), api.Msg{}, msg(f(3, in(f(1, n(1)))))},
		{"m.s", api.Msg{}, msg(f(3, in(f(1, n(1))))), msg(f(3, in()))},
		{"m.m.i,m.s", msg(f(3, in(f(3, in(f(2, tx("x"))))))), msg(f(3, in(f(2, tx("y")), f(3, in(f(1, n(7))))))), msg(f(3, in(f(2, tx("y")), f(3, in(f(1, n(7)), f(2, tx("x")))))))},
		// oneofs
		{"a", msg(f(12, tx("x"))), msg(f(11, n(0))), msg(f(11, n(0)))},
		{"a", msg(f(12, tx("x"))), msg(f(13, in())), msg(f(12, tx("x")))},
		{"a", msg(f(12, tx("x"))), api.Msg{}, msg(f(12, tx("x")))},
		{"a,b", msg(f(12, tx("x"))), api.Msg{}, api.Msg{}},
		{"a,b", msg(f(12, tx("x"))), msg(f(11, n(5))), msg(f(11, n(5)))},
		{"a,e", msg(f(12, tx("x")), f(16, n(1))), msg(f(11, n(5)), f(15, n(2))), msg(f(11, n(5)), f(15, n(2)))},
		{"a", msg(f(12, tx("x")), f(16, n(1))), msg(f(11, n(5)), f(15, n(2))), msg(f(11, n(5)), f(16, n(1)))},
		{"c", msg(f(14, in(f(1, n(1))))), msg(f(13, in(f(2, tx("a"))))), msg(f(13, in(f(2, tx("a")))))},
		{"c", msg(f(13, in(f(1, n(1))))), msg(f(13, in(f(2, tx("a"))))), msg(f(13, in(f(1, n(1)), f(2, tx("a")))))},
		{"c.i", msg(f(14, in(f(1, n(1))))), msg(f(13, in(f(2, tx("a"))))), msg(f(13, in()))},
		{"c,d.i", msg(f(13, in(f(1, n(1))))), msg(f(14, in(f(1, n(4)), f(2, tx("a"))))), msg(f(14, in(f(1, n(4)))))},
		{"d", msg(f(13, in(f(1, n(1))))), msg(f(13, in(f(2, tx("a"))))), msg(f(13, in(f(1, n(1)))))},
	} {
		got, e := Merge(s, "M", mask(t, x.mask), x.d, x.v)
		if e != api.OK || !pval.Same(got, x.want) || !pval.Fits(s, "M", got) {
			t.Errorf("%d: %s: %v %d", i, x.mask, got, e)
		}
	}
	bad := msg(f(1, n(0)))
	for i, x := range []struct {
		name, mask string
		d, v       api.Msg
		e          api.Errno
	}{
		{"X", "", api.Msg{}, api.Msg{}, api.ErrMask},
		{"M", "r.i", bad, bad, api.ErrMask},
		{"M", "i", bad, api.Msg{}, api.ErrType},
		{"M", "i", api.Msg{}, bad, api.ErrType},
	} {
		if got, e := Merge(s, x.name, mask(t, x.mask), x.d, x.v); e != x.e || !pval.Same(got, api.Msg{}) {
			t.Errorf("%d: %v %d", i, got, e)
		}
	}
}
