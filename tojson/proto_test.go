package tojson

import (
	stdjson "encoding/json"
	"strings"
	"testing"

	"proclitic/api"
	"proclitic/json"
	"proclitic/pname"
	"proclitic/prule"
	"proclitic/pval"
)

const source = `syntax = "proto3";
message M {
  int32 i = 1; string s = 2; bytes y = 3; bool b = 4; M m = 5; E e = 6; float f = 7; double d = 8; uint32 u = 9; fixed32 fx = 10;
  int64 l = 11; sint64 sl = 12; sfixed64 fl = 13; uint64 ul = 14; fixed64 xl = 15; sfixed32 sf = 17;
  optional int32 oi = 21; optional string os = 22; optional E oe = 23;
  repeated int32 r = 31; repeated M rm = 32; repeated E re = 33;
  map<int32, int64> mi = 41; map<string, M> ms = 42; map<bool, E> mb = 43; map<uint64, string> mu = 44; map<sint64, bool> ml = 45;
  oneof one { int32 a = 51; string z = 52; M c = 53; }
}
enum E { ZERO = 0; TWO = 2; NEG = -1; }
message K { map<int32, bool> a = 1; map<int64, bool> b = 2; map<sint32, bool> c = 3; map<sint64, bool> d = 4; map<sfixed32, bool> e = 5; map<sfixed64, bool> f = 6;
  map<uint32, bool> g = 7; map<uint64, bool> h = 8; map<fixed32, bool> i = 9; map<fixed64, bool> j = 10; map<bool, bool> k = 11; map<string, bool> l = 12; }
`

func schema(t *testing.T) api.PSchema {
	files, e, _, at := pname.Load([]api.Source{{Name: "a", Text: source}})
	if e != api.OK {
		t.Fatalf("%d %d", e, at)
	}
	s, e, whole := prule.Schema(files)
	if e != api.OK {
		t.Fatalf("%d %s", e, whole)
	}
	return s
}

func n(v int64) api.Val                 { return api.Val{N: uint64(v)} }
func tx(s string) api.Val               { return api.Val{S: s} }
func in(l ...api.Field) api.Val         { return api.Val{M: msg(l...)} }
func msg(l ...api.Field) api.Msg        { return api.Msg{Fields: l} }
func f(num int, l ...api.Val) api.Field { return api.Field{Num: num, L: l} }

// P28.1
func TestProto(t *testing.T) {
	s := schema(t)
	for want, m := range map[string]api.Msg{
		`{}`: {},
		`{"i":-5,"s":"é\n","y":"/w==","b":true,"e":"TWO","f":"0x80000000","d":"0x000000000000000f","u":4294967295,"fx":1}`: msg(
			f(1, n(-5)), f(2, tx("é\n")), f(3, tx("\xff")), f(4, n(1)), f(6, n(2)), f(7, n(1<<31)), f(8, n(15)), f(9, n(1<<32-1)), f(10, n(1))),
		`{"l":"-9223372036854775808","sl":"-1","fl":"9223372036854775807","ul":"18446744073709551615","xl":"1","sf":-2147483648}`: msg(
			f(11, n(-1<<63)), f(12, n(-1)), f(13, n(1<<63-1)), f(14, n(-1)), f(15, n(1)), f(17, n(-1<<31))),
		`{"e":7,"oi":0,"os":"","oe":"ZERO"}`:               msg(f(6, n(7)), f(21, n(0)), f(22, tx("")), f(23, n(0))),
		`{"m":{},"e":"NEG"}`:                               msg(f(5, in()), f(6, n(-1))),
		`{"m":{"m":{"i":1}},"r":[0,-1],"rm":[{},{"i":2}]}`: msg(f(5, in(f(5, in(f(1, n(1)))))), f(31, n(0), n(-1)), f(32, in(), in(f(1, n(2))))),
		`{"re":["ZERO",1,"NEG"]}`:                          msg(f(33, n(0), n(1), n(-1))),
		`{"mi":{"-2":"5","-1":"0","0":"1","10":"2"},"ms":{"":{},"a":{"i":1}},"mb":{"false":"TWO","true":9},"mu":{"2":"a","18446744073709551615":""},"ml":{"-9223372036854775808":false,"1":true}}`: msg(
			f(41, n(-2), n(5), n(-1), n(0), n(0), n(1), n(10), n(2)), f(42, tx(""), in(), tx("a"), in(f(1, n(1)))), f(43, n(0), n(2), n(1), n(9)), f(44, n(2), tx("a"), n(-1), tx("")), f(45, n(-1<<63), n(0), n(1), n(1))),
		`{"a":0}`:  msg(f(51, n(0))),
		`{"z":""}`: msg(f(52, tx(""))),
		`{"c":{}}`: msg(f(53, in())),
	} {
		tree, e := Proto(s, "M", m)
		if got := json.Print(tree); e != api.OK || got != want || !json.May(tree) {
			t.Errorf("%s: %d, not %s", got, e, want)
		}
		if back, e := FromProto(s, "M", tree); e != api.OK || !pval.Same(back, m) {
			t.Errorf("%s: %v %d", want, back, e)
		}
	}
	if tree, e := Proto(s, "M", api.Msg{Rest: "\xf8\x06\x01"}); e != api.OK || json.Print(tree) != "{}" {
		t.Errorf("what is not known: %v %d", tree, e)
	}
	if _, e := Proto(s, "X", msg(f(1, n(0)))); e != api.ErrArg {
		t.Errorf("of no message: %d", e)
	}
	if tree, e := Proto(s, "M", msg(f(1, n(0)))); e != api.ErrType || tree.Kind != 0 {
		t.Errorf("of no value: %d", e)
	}
}

// P28.1: keys of each kind, with signs and without.
func TestKeys(t *testing.T) {
	s := schema(t)
	p, _ := prule.Message(s, "K")
	for _, x := range p.Fields {
		m := msg(f(x.Num, n(-1), n(1), n(1), n(0)))
		want := `{"` + x.Name + `":{"-1":true,"1":false}}`
		switch x.Key {
		case api.KUint32, api.KFixed32:
			m = msg(f(x.Num, n(1), n(0), n(1<<32-1), n(1)))
			want = `{"` + x.Name + `":{"1":false,"4294967295":true}}`
		case api.KUint64, api.KFixed64:
			m = msg(f(x.Num, n(1), n(0), n(-1), n(1)))
			want = `{"` + x.Name + `":{"1":false,"18446744073709551615":true}}`
		case api.KBool:
			m = msg(f(x.Num, n(0), n(1)))
			want = `{"` + x.Name + `":{"false":true}}`
		case api.KString:
			m = msg(f(x.Num, tx(""), n(1)))
			want = `{"` + x.Name + `":{"":true}}`
		}
		tree, e := Proto(s, "K", m)
		if json.Print(tree) != want || e != api.OK {
			t.Errorf("%s: %d, not %s", json.Print(tree), e, want)
		}
		if back, e := FromProto(s, "K", tree); e != api.OK || !pval.Same(back, m) {
			t.Errorf("%s: %v %d", want, back, e)
		}
	}
}

// P28.1
func TestFromProtoErrors(t *testing.T) {
	s := schema(t)
	deep := func(n int, inner string) string {
		return strings.Repeat(`{"m":`, n) + inner + strings.Repeat("}", n)
	}
	for text, want := range map[string]api.Errno{
		`null`: api.ErrType, `[]`: api.ErrType, `1`: api.ErrType,
		`{"x":1}`: api.ErrType, `{"one":1}`: api.ErrType, `{"s":"a","i":1}`: api.ErrType,
		`{"i":0}`: api.ErrType, `{"s":""}`: api.ErrType, `{"y":""}`: api.ErrType, `{"b":false}`: api.ErrType, `{"e":"ZERO"}`: api.ErrType, `{"f":"0x00000000"}`: api.ErrType, `{"l":"0"}`: api.ErrType,
		`{"i":null}`: api.ErrType, `{"i":"1"}`: api.ErrType, `{"i":2147483648}`: api.ErrType, `{"i":-2147483649}`: api.ErrType, `{"u":-1}`: api.ErrType, `{"u":4294967296}`: api.ErrType, `{"sf":true}`: api.ErrType,
		`{"l":1}`: api.ErrType, `{"l":"01"}`: api.ErrType, `{"l":"+1"}`: api.ErrType, `{"l":"-0"}`: api.ErrType, `{"l":" 1"}`: api.ErrType, `{"l":"1_0"}`: api.ErrType, `{"l":"9223372036854775808"}`: api.ErrType, `{"l":""}`: api.ErrType,
		`{"ul":"-1"}`: api.ErrType, `{"ul":"18446744073709551616"}`: api.ErrType, `{"ul":"0x1"}`: api.ErrType,
		`{"f":"0x0000000A"}`: api.ErrType, `{"f":"0X0000000a"}`: api.ErrType, `{"f":"0x0000001"}`: api.ErrType, `{"f":"0x000000001"}`: api.ErrType, `{"f":"0x+0000001"}`: api.ErrType, `{"f":1}`: api.ErrType, `{"f":"000000001a"}`: api.ErrType, `{"d":"0x00000001"}`: api.ErrType,
		`{"f":"0x0000000a"}`: api.OK,
		`{"y":"YR=="}`:       api.ErrType, `{"y":"YQ"}`: api.ErrType, `{"y":1}`: api.ErrType,
		`{"e":"TWOO"}`: api.ErrType, `{"e":2}`: api.ErrType, `{"e":-1}`: api.ErrType, `{"e":2147483648}`: api.ErrType, `{"oe":0}`: api.ErrType, `{"oe":3}`: api.OK, `{"oe":true}`: api.ErrType, `{"oe":""}`: api.ErrType,
		`{"r":[]}`: api.ErrType, `{"r":1}`: api.ErrType, `{"r":[1,"2"]}`: api.ErrType, `{"rm":[{"x":1}]}`: api.ErrType,
		`{"mi":{}}`: api.ErrType, `{"mi":[]}`: api.ErrType, `{"mi":{"1":"1","0":"1"}}`: api.ErrType, `{"mi":{"10":"1","9":"1"}}`: api.ErrType, `{"mi":{"01":"1"}}`: api.ErrType, `{"mi":{"-0":"1"}}`: api.ErrType, `{"mi":{"2147483648":"1"}}`: api.ErrType, `{"mi":{"1":1}}`: api.ErrType,
		`{"mi":{"9":"1","10":"1"}}`:             api.OK,
		`{"mb":{"true":"ZERO","false":"ZERO"}}`: api.ErrType, `{"mb":{"1":"ZERO"}}`: api.ErrType, `{"mb":{"":"ZERO"}}`: api.ErrType, `{"mu":{"-1":""}}`: api.ErrType, `{"ms":{"b":{},"a":{}}}`: api.ErrType,
		`{"a":1,"z":"x"}`: api.ErrType, `{"a":1,"c":{}}`: api.ErrType,
		`{"z":"x","c":` + deep(20, "{}") + `}`: api.ErrLimit,
		deep(19, "{}"):                         api.OK, deep(20, "{}"): api.ErrLimit,
		deep(19, `{"x":1}`):                          api.ErrType,
		`{"x":1,"m":` + deep(20, "{}") + `}`:         api.ErrType,
		`{"m":` + deep(19, "{}") + `,"x":1}`:         api.ErrLimit,
		`{"s":"a","m":` + deep(19, "{}") + `,"i":1}`: api.ErrLimit,
		`{"e":7,"m":` + deep(19, "{}") + `}`:         api.ErrType,
		`{"rm":[` + deep(18, "{}") + `]}`:            api.OK,
		`{"rm":[` + deep(19, "{}") + `]}`:            api.ErrLimit,
		`{"ms":{"a":` + deep(18, "{}") + `}}`:        api.OK,
		`{"ms":{"a":` + deep(19, "{}") + `}}`:        api.ErrLimit,
	} {
		tree := parse(text)
		m, e := FromProto(s, "M", tree)
		if e != want || e != api.OK && !pval.Same(m, api.Msg{}) {
			t.Errorf("%.60s: %v %d, not %d", text, m, e, want)
		}
		if e == api.OK {
			if back, e := Proto(s, "M", m); e != api.OK || !json.Same(back, tree) {
				t.Errorf("%.60s: %s", text, json.Print(back))
			}
		}
	}
	for _, tree := range []api.JNode{
		{Kind: api.JTable, Names: []string{"i"}},
		{Kind: api.JTable, Names: []string{"b"}, L: []api.JNode{{Kind: api.JBool, N: 2}}},
		{Kind: api.JTable, Names: []string{"s"}, L: []api.JNode{{Kind: api.JText, S: "\xff"}}},
		{Kind: api.JTable, Names: []string{"i", "i"}, L: []api.JNode{{Kind: api.JInt, N: 2}, {Kind: api.JInt, N: 2}}},
		{Kind: api.JTable, Names: []string{"ms"}, L: []api.JNode{{Kind: api.JTable, Names: []string{"\xff"}, L: []api.JNode{{Kind: api.JTable}}}}},
		{Kind: api.JTable, Names: []string{"ms"}, L: []api.JNode{{Kind: api.JTable, Names: []string{"a"}}}},
		{Kind: api.JTable, Names: []string{"mi"}, L: []api.JNode{{Kind: api.JTable, Names: []string{"1", "1"}, L: []api.JNode{{Kind: api.JText, S: "1"}, {Kind: api.JText, S: "1"}}}}},
		{Kind: api.JTable, Names: []string{"f"}, L: []api.JNode{{Kind: api.JInt, S: "0x00000001"}}},
		{Kind: api.JTable, Names: []string{"l"}, L: []api.JNode{{Kind: api.JInt, S: "1"}}},
		{Kind: api.JTable, Names: []string{"y"}, L: []api.JNode{{Kind: api.JInt, S: "YQ=="}}},
	} {
		if m, e := FromProto(s, "M", tree); e != api.ErrType {
			t.Errorf("%v: %v %d", tree, m, e)
		}
	}
	if _, e := FromProto(s, "X", api.JNode{}); e != api.ErrArg {
		t.Errorf("of no message: %d", e)
	}
}

// parse tells the tree of a text, also of one that is deeper than json allows.
func parse(text string) api.JNode {
	d := stdjson.NewDecoder(strings.NewReader(text))
	d.UseNumber()
	return tree(d)
}

func tree(d *stdjson.Decoder) api.JNode {
	token, err := d.Token()
	if err != nil {
		panic(err)
	}
	switch x := token.(type) {
	case stdjson.Delim:
		n := api.JNode{Kind: api.JList}
		for d.More() {
			if x == '{' {
				name, _ := d.Token()
				n.Kind, n.Names = api.JTable, append(n.Names, name.(string))
			}
			n.L = append(n.L, tree(d))
		}
		d.Token()
		if x == '{' {
			n.Kind = api.JTable
		}
		return n
	case bool:
		if x {
			return api.JNode{Kind: api.JBool, N: 1}
		}
		return api.JNode{Kind: api.JBool}
	case stdjson.Number:
		v, _ := x.Int64()
		return api.JNode{Kind: api.JInt, N: v}
	case string:
		return api.JNode{Kind: api.JText, S: x}
	}
	return api.JNode{Kind: api.JNull}
}
