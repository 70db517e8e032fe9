package cross

import (
	"fmt"
	"reflect"
	"strings"
	"testing"

	"proclitic/api"
	"proclitic/aval"
	"proclitic/pname"
	"proclitic/prule"
	"proclitic/pval"
)

func schema(t *testing.T, text string) api.PSchema {
	files, e, _, at := pname.Load([]api.Source{{Name: "a", Text: `syntax = "proto3"; ` + text}})
	if e != api.OK {
		t.Fatalf("%d %d", e, at)
	}
	s, e, whole := prule.Schema(files)
	if e != api.OK {
		t.Fatalf("%d %s", e, whole)
	}
	return s
}

const source = `package p; message M {
  bytes y = 9; int32 i = 1; int64 l = 2; bool b = 3; float f = 4; double d = 5; string s = 6; M m = 7; optional int32 oi = 8;
  oneof one { int32 a = 10; N c = 11; string z = 12; }
  repeated string r = 13; repeated N rn = 14; map<string, int32> ms = 15; map<string, M> mm = 16; optional N on = 17; }
  message N { bool x = 1; } message Alone { int32 i = 1; }`

func n(v int64) api.Val                 { return api.Val{N: uint64(v)} }
func tx(s string) api.Val               { return api.Val{S: s} }
func in(l ...api.Field) api.Val         { return api.Val{M: msg(l...)} }
func msg(l ...api.Field) api.Msg        { return api.Msg{Fields: l} }
func f(num int, l ...api.Val) api.Field { return api.Field{Num: num, L: l} }
func al(l ...api.AVal) api.AVal         { return api.AVal{L: l} }
func an(v int64) api.AVal               { return api.AVal{N: uint64(v)} }
func un(b int, v api.AVal) api.AVal     { return api.AVal{Branch: b, L: []api.AVal{v}} }

// P29.1
func TestSchema(t *testing.T) {
	s := schema(t, source)
	k := func(kind int) api.AType { return api.AType{Kind: kind} }
	un := func(l ...int) api.AType { return api.AType{Kind: api.AUnion, Branches: l} }
	want := api.ASchema{Types: []api.AType{
		{Kind: api.ARecord, Name: "p.M", Fields: []api.AField{
			{Name: "i", Type: 1}, {Name: "l", Type: 2}, {Name: "b", Type: 3}, {Name: "f", Type: 4}, {Name: "d", Type: 5}, {Name: "s", Type: 6},
			{Name: "m", Type: 7}, {Name: "oi", Type: 9}, {Name: "y", Type: 12}, {Name: "a", Type: 13}, {Name: "c", Type: 16}, {Name: "z", Type: 20},
			{Name: "r", Type: 23}, {Name: "rn", Type: 25}, {Name: "ms", Type: 26}, {Name: "mm", Type: 28}, {Name: "on", Type: 29},
		}},
		k(api.AInt), k(api.ALong), k(api.ABool), k(api.AFloat), k(api.ADouble), k(api.AString),
		un(8, 0), k(api.ANull),
		un(10, 11), k(api.ANull), k(api.AInt),
		k(api.ABytes),
		un(14, 15), k(api.ANull), k(api.AInt),
		un(17, 18), k(api.ANull), {Kind: api.ARecord, Name: "p.N", Fields: []api.AField{{Name: "x", Type: 19}}}, k(api.ABool),
		un(21, 22), k(api.ANull), k(api.AString),
		{Kind: api.AArray, Items: 24}, k(api.AString),
		{Kind: api.AArray, Items: 18},
		{Kind: api.AMap, Items: 27}, k(api.AInt),
		{Kind: api.AMap, Items: 0},
		un(30, 18), k(api.ANull),
	}}
	if a, e := Schema(s, "p.M"); e != api.OK || !reflect.DeepEqual(a, want) {
		t.Errorf("%+v %d", a, e)
	}
	if a, e := Schema(s, "p.Alone"); e != api.OK || len(a.Types) != 2 {
		t.Errorf("%+v %d", a, e)
	}
}

// P29.1
func TestSchemaErrors(t *testing.T) {
	many := func(n int, form string) string {
		var b strings.Builder
		for i := range n {
			b.WriteString(strings.ReplaceAll(form, "#", fmt.Sprint(i+1)))
		}
		return b.String()
	}
	for text, want := range map[string]api.Errno{
		"message N {}":                                                                                                   api.ErrArg,
		"message M {}":                                                                                                   api.OK,
		"message M { uint32 a = 1; }":                                                                                    api.ErrCompat,
		"message M { uint64 a = 1; }":                                                                                    api.ErrCompat,
		"message M { sint32 a = 1; }":                                                                                    api.ErrCompat,
		"message M { fixed64 a = 1; }":                                                                                   api.ErrCompat,
		"message M { E a = 1; } enum E { A = 0; }":                                                                       api.ErrCompat,
		"message M { repeated sfixed32 a = 1; }":                                                                         api.ErrCompat,
		"message M { map<int32, int32> a = 1; }":                                                                         api.ErrCompat,
		"message M { map<bool, int32> a = 1; }":                                                                          api.ErrCompat,
		"message M { map<string, uint32> a = 1; }":                                                                       api.ErrCompat,
		"message M { N a = 1; } message N { uint32 a = 1; }":                                                             api.ErrCompat,
		"message M { map<string, N> a = 1; } message N { uint32 a = 1; }":                                                api.ErrCompat,
		"message M { int32 a = 1; } message N { uint32 a = 1; }":                                                         api.OK,
		"message M {" + many(29, "repeated int32 a#=#;") + "int32 b=99; }":                                               api.OK,
		"message M {" + many(30, "repeated int32 a#=#;") + "}":                                                           api.ErrLimit,
		"message M {" + many(20, "optional int32 a#=#;") + "}":                                                           api.ErrLimit,
		"message M {" + many(29, "repeated int32 a#=#;") + "N n=99; } message N { uint32 a = 1; }":                       api.ErrCompat,
		"message M { N n = 1; } message N { O o = 1; } message O { N n = 1; }":                                           api.OK,
		"message M {" + many(29, "repeated int32 a#=#;") + "repeated M m=99; }":                                          api.OK,
		"message M {" + many(29, "repeated int32 a#=#;") + "M m=99; }":                                                   api.ErrLimit,
		"message M {" + many(29, "repeated int32 a#=#;") + "repeated N n=99; } message N {}":                             api.ErrLimit,
		"message M {" + many(28, "repeated int32 a#=#;") + "repeated N n=99; } message N { int32 a=1; }":                 api.OK,
		"message M {" + many(28, "repeated int32 a#=#;") + "repeated N n=99; } message N { int32 a=1; repeated M m=2; }": api.ErrLimit,
		many(29, "message M# { repeated int32 a = 1; }") + "message M { M1 a = 1; }":                                     api.OK,
	} {
		s := schema(t, text)
		a, e := Schema(s, "M")
		if e != want || e != api.OK && a.Types != nil {
			t.Errorf("%.60s: %d, not %d", text, e, want)
		}
		if e != api.OK {
			if _, got := To(s, "M", msg(f(99, n(0)))); got != e {
				t.Errorf("%.60s: To: %d", text, got)
			}
			if _, got := Back(s, "M", an(5)); got != e {
				t.Errorf("%.60s: Back: %d", text, got)
			}
		}
	}
	odd := api.PSchema{Messages: []api.PMessage{{Name: "M", Fields: []api.PField{{Num: 1, Kind: api.KMessage, Type: "none"}}}}}
	if _, e := Schema(odd, "M"); e != api.ErrCompat {
		t.Errorf("a message that is not there: %d", e)
	}
}

// P29.1
func TestToAndBack(t *testing.T) {
	s := schema(t, source)
	a, _ := Schema(s, "p.M")
	null := un(0, an(0))
	// empty tells the value of the empty message, with some of its fields laid over.
	empty := func(over map[int]api.AVal) api.AVal {
		v := al(an(0), an(0), an(0), an(0), an(0), an(0), null, null, an(0), null, null, null, an(0), an(0), an(0), an(0), null)
		for i, x := range over {
			v.L[i] = x
		}
		return v
	}
	for i, x := range []struct {
		m api.Msg
		v api.AVal
	}{
		{api.Msg{}, empty(nil)},
		{msg(f(1, n(5)), f(2, n(-1)), f(3, n(1)), f(4, n(1<<31)), f(5, n(-1)), f(6, tx("é")), f(9, tx("\xff"))),
			empty(map[int]api.AVal{0: an(5), 1: an(-1), 2: an(1), 3: an(1 << 31), 4: an(-1), 5: {S: "é"}, 8: {S: "\xff"}})},
		{msg(f(1, n(-1<<31))), empty(map[int]api.AVal{0: an(-1 << 31)})},
		{msg(f(7, in(f(1, n(5)))), f(8, n(0))), empty(map[int]api.AVal{6: un(1, empty(map[int]api.AVal{0: an(5)})), 7: un(1, an(0))})},
		{msg(f(10, n(0))), empty(map[int]api.AVal{9: un(1, an(0))})},
		{msg(f(11, in())), empty(map[int]api.AVal{10: un(1, al(an(0)))})},
		{msg(f(12, tx(""))), empty(map[int]api.AVal{11: un(1, an(0))})},
		{msg(f(13, tx(""), tx("a")), f(14, in(), in(f(1, n(1))))), empty(map[int]api.AVal{12: al(an(0), api.AVal{S: "a"}), 13: al(al(an(0)), al(an(1)))})},
		{msg(f(15, tx(""), n(0), tx("a"), n(7)), f(16, tx("k"), in())), empty(map[int]api.AVal{14: {Keys: []string{"", "a"}, L: []api.AVal{an(0), an(7)}}, 15: {Keys: []string{"k"}, L: []api.AVal{empty(nil)}}})},
		{msg(f(17, in(f(1, n(1))))), empty(map[int]api.AVal{16: un(1, al(an(1)))})},
	} {
		v, e := To(s, "p.M", x.m)
		if e != api.OK || !aval.Same(v, x.v) || !aval.Fits(a, 0, v) {
			t.Errorf("%d: %v %d", i, v, e)
		}
		m, e := Back(s, "p.M", x.v)
		if e != api.OK || !pval.Same(m, x.m) || !pval.Fits(s, "p.M", m) {
			t.Errorf("%d: back: %v %d", i, m, e)
		}
	}
	rest := api.Msg{Fields: []api.Field{f(1, n(5))}, Rest: "\xf8\x06\x01"}
	if v, e := To(s, "p.M", rest); e != api.OK || !aval.Same(v, empty(map[int]api.AVal{0: an(5)})) {
		t.Errorf("what is not known: %v %d", v, e)
	}
	if v, e := To(s, "p.M", msg(f(1, n(0)))); e != api.ErrType || v.L != nil {
		t.Errorf("no value: %d", e)
	}
	for i, v := range []api.AVal{
		{},
		an(1),
		empty(map[int]api.AVal{0: an(1 << 31)}),
		empty(map[int]api.AVal{5: {S: "\xff"}}),
		empty(map[int]api.AVal{9: un(1, an(0)), 11: un(1, an(0))}),
		empty(map[int]api.AVal{6: un(1, empty(map[int]api.AVal{9: un(1, an(0)), 10: un(1, al(an(0)))}))}),
		empty(map[int]api.AVal{15: {Keys: []string{"k"}, L: []api.AVal{empty(map[int]api.AVal{9: un(1, an(0)), 11: un(1, an(0))})}}}),
	} {
		if m, e := Back(s, "p.M", v); e != api.ErrType || !pval.Same(m, api.Msg{}) {
			t.Errorf("%d: %v %d", i, m, e)
		}
	}
}
