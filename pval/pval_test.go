package pval

import (
	"testing"

	"proclitic/api"
	"proclitic/pname"
	"proclitic/prule"
)

const text = `syntax = "proto3";
message M {
  int32 i = 1; string s = 2; bytes y = 3; bool b = 4; M m = 5; E e = 6; float f = 7; uint64 u = 8;
  optional int32 oi = 11; optional string os = 12; optional M om = 13;
  repeated sint32 ri = 21; repeated string rs = 22; repeated M rm = 23; repeated fixed32 rf = 24 [packed=false];
  map<sint32, string> mi = 31; map<string, M> ms = 32; map<bool, E> mb = 33; map<uint64, bytes> mu = 34;
  oneof xx { int32 xi = 41; string xs = 42; M xm = 43; }
  oneof yy { int32 yi = 44; bool yb = 45; }
}
enum E { ZERO = 0; ONE = 1; }
`

func schema(t *testing.T) api.PSchema {
	files, e, _, at := pname.Load([]api.Source{{Name: "a", Text: text}})
	if e != api.OK {
		t.Fatalf("%d %d", e, at)
	}
	s, e, whole := prule.Schema(files)
	if e != api.OK {
		t.Fatalf("%d %s", e, whole)
	}
	return s
}

func n(v int64) api.Val                 { return api.Val{N: uint64(v)} }
func tx(s string) api.Val               { return api.Val{S: s} }
func in(m api.Msg) api.Val              { return api.Val{M: m} }
func rest(s string) api.Msg             { return api.Msg{Rest: s} }
func msg(l ...api.Field) api.Msg        { return api.Msg{Fields: l} }
func f(num int, l ...api.Val) api.Field { return api.Field{Num: num, L: l} }

var deep = msg(f(5, in(msg(f(1, n(3)), f(5, in(api.Msg{}))))))

// P15.1
func TestFits(t *testing.T) {
	s := schema(t)
	for i, m := range []api.Msg{
		{},
		{Fields: []api.Field{}},
		msg(f(1, n(-1<<31)), f(2, tx("é")), f(3, tx("\xff")), f(4, n(1)), f(5, in(api.Msg{})), f(6, n(77)), f(7, n(1<<31)), f(8, n(-1))),
		msg(f(11, n(0)), f(12, tx("")), f(13, in(api.Msg{}))),
		msg(f(21, n(0), n(-5), n(0)), f(22, tx(""), tx("a")), f(23, in(api.Msg{}), in(deep)), f(24, n(0))),
		msg(f(31, n(-2), tx("b"), n(-1), tx(""), n(0), tx("a")), f(32, tx(""), in(deep), tx("a"), in(api.Msg{})), f(33, n(0), n(1), n(1), n(0)), f(34, n(1), tx("\xff"), n(-1), tx(""))),
		msg(f(41, n(0)), f(45, n(0))),
		msg(f(42, tx(""))),
		msg(f(43, in(api.Msg{}))),
		deep,
		rest("\x98\x03\x01" + "\x80\x01\x00"),
		rest("\x0a\x00" + "\x0d\x00\x00\x00\x00" + "\x10\x01" + "\xad\x01\x00\x00\x00\x00"),
		rest("\xf8\x01\x00" + "\xd0\x02\x00"),
		msg(f(5, in(rest("\x98\x03\x01")))),
	} {
		if !Fits(s, "M", m) {
			t.Errorf("%d: %v", i, m)
		}
	}
	for i, m := range []api.Msg{
		msg(f(9, n(1))),
		msg(f(0, n(1))),
		msg(f(2, tx("a")), f(1, n(1))),
		msg(f(1, n(1)), f(1, n(1))),
		msg(f(1)),
		msg(f(21)),
		msg(f(31)),
		msg(f(1, n(1), n(1))),
		msg(f(11, n(1), n(1))),
		msg(f(1, n(0))),
		msg(f(2, tx(""))),
		msg(f(3, tx(""))),
		msg(f(4, n(0))),
		msg(f(6, n(0))),
		msg(f(7, n(0))),
		msg(f(1, n(1<<31))),
		msg(f(6, n(1<<31))),
		msg(f(4, n(2))),
		msg(f(7, n(1<<32))),
		msg(f(1, api.Val{N: 1, S: "a"})),
		msg(f(1, api.Val{N: 1, M: deep})),
		msg(f(1, api.Val{N: 1, M: rest("\x98\x03\x01")})),
		msg(f(2, api.Val{N: 1, S: "a"})),
		msg(f(2, api.Val{S: "a", M: deep})),
		msg(f(3, api.Val{S: "a", M: deep})),
		msg(f(2, tx("\xff"))),
		msg(f(22, tx("a"), tx("\xff"))),
		msg(f(5, api.Val{N: 1})),
		msg(f(5, api.Val{S: "a"})),
		msg(f(5, in(msg(f(1, n(0)))))),
		msg(f(31, n(1))),
		msg(f(31, n(1), tx("a"), n(2))),
		msg(f(31, n(2), tx("a"), n(1), tx("a"))),
		msg(f(31, n(0), tx("a"), n(-1), tx("a"))),
		msg(f(31, n(1), tx("a"), n(1), tx("b"))),
		msg(f(34, n(-1), tx("a"), n(1), tx("b"))),
		msg(f(31, n(1<<31), tx("a"))),
		msg(f(31, n(1), n(1))),
		msg(f(32, tx("\xff"), in(api.Msg{}))),
		msg(f(33, n(2), n(0))),
		msg(f(41, n(1)), f(42, tx("a"))),
		rest("\x98"),
		rest("\x08\x01"),
		rest("\x98\x03\x01\x08\x01"),
		rest("\x0a\x00\x12\x00"),
		rest("\xaa\x01\x00"),
		rest("\xc2\x01\x00"),
		rest("\xc5\x01\x00\x00\x00\x00"),
		rest("\xfa\x01\x00"),
		msg(f(5, in(rest("\x08\x01")))),
		rest("\x9a\x03\x85\x27" + string(make([]byte, api.MaxBytes))),
	} {
		if Fits(s, "M", m) {
			t.Errorf("%d: %v", i, m)
		}
	}
	if Fits(s, "E", api.Msg{}) || Fits(s, "", api.Msg{}) || Fits(api.PSchema{}, "M", api.Msg{}) {
		t.Error("of no message")
	}
}

// P15.1
func TestKnown(t *testing.T) {
	for i, x := range []struct {
		f     api.PField
		wires string
	}{
		{api.PField{Kind: api.KInt32}, "0"},
		{api.PField{Kind: api.KInt32, Label: api.Optional}, "0"},
		{api.PField{Kind: api.KInt32, Oneof: 1}, "0"},
		{api.PField{Kind: api.KInt32, Label: api.Repeated}, "02"},
		{api.PField{Kind: api.KDouble, Label: api.Repeated, Packed: true}, "12"},
		{api.PField{Kind: api.KFloat}, "5"},
		{api.PField{Kind: api.KEnum, Label: api.Repeated}, "02"},
		{api.PField{Kind: api.KString}, "2"},
		{api.PField{Kind: api.KMessage, Label: api.Repeated}, "2"},
		{api.PField{Kind: api.KInt32, Label: api.Mapped, Key: api.KInt32}, "2"},
		{api.PField{}, ""},
	} {
		got := ""
		for wire := -2; wire < 9; wire++ {
			if Known(x.f, wire) {
				got += string(rune('0' + wire))
			}
		}
		if got != x.wires {
			t.Errorf("%d: %s, not %s", i, got, x.wires)
		}
	}
}

// P15.1
func TestGet(t *testing.T) {
	m := msg(f(1, n(3)), f(23, in(deep), in(api.Msg{})))
	l, ok := Get(m, 23)
	if !ok || len(l) != 2 || !Same(l[0].M, deep) {
		t.Fatalf("%v %v", l, ok)
	}
	l[0].M.Fields[0].Num, l[1].N = 99, 99
	if deep.Fields[0].Num == 99 || m.Fields[1].L[1].N == 99 {
		t.Error("what is told is the argument's memory")
	}
	if l, ok := Get(m, 1); !ok || len(l) != 1 || l[0].N != 3 {
		t.Errorf("%v %v", l, ok)
	}
	if l, ok := Get(m, 2); ok || l != nil {
		t.Errorf("%v", l)
	}
}

// P15.1
func TestCmp(t *testing.T) {
	for _, x := range []struct {
		kind int
		a, b api.Val
		want int
	}{
		{api.KInt32, n(-1), n(1), -1},
		{api.KInt64, n(1), n(-1), 1},
		{api.KSint32, n(5), n(5), 0},
		{api.KSint64, n(-1), n(0), -1},
		{api.KSfixed32, n(-1), n(0), -1},
		{api.KSfixed64, n(-1), n(0), -1},
		{api.KEnum, n(-1), n(0), -1},
		{api.KUint32, n(1), n(2), -1},
		{api.KUint64, n(-1), n(1), 1},
		{api.KFixed32, n(2), n(1), 1},
		{api.KFixed64, n(-1), n(1), 1},
		{api.KBool, n(0), n(1), -1},
		{api.KFloat, n(1 << 31), n(1), 1},
		{api.KDouble, n(-1 << 63), n(1), 1},
		{api.KString, tx("a"), tx("ab"), -1},
		{api.KString, tx("\xff"), tx("a"), 1},
		{api.KBytes, tx("a"), tx("a"), 0},
		{api.KBytes, tx("b"), tx("a"), 1},
		{api.KMessage, in(deep), in(api.Msg{}), 0},
		{0, n(1), n(2), 0},
	} {
		if c := Cmp(x.kind, x.a, x.b); c != x.want {
			t.Errorf("%v: %d", x, c)
		}
	}
}

// P15.2
func TestMerge(t *testing.T) {
	s := schema(t)
	sub := func(l ...api.Field) api.Val { return in(msg(l...)) }
	for i, x := range []struct{ a, b, want api.Msg }{
		{api.Msg{}, api.Msg{}, api.Msg{}},
		{deep, api.Msg{}, deep},
		{api.Msg{}, deep, deep},
		{msg(f(1, n(1)), f(4, n(1))), msg(f(1, n(2)), f(2, tx("a"))), msg(f(1, n(2)), f(2, tx("a")), f(4, n(1)))},
		{msg(f(11, n(1)), f(12, tx("a"))), msg(f(11, n(0)), f(12, tx(""))), msg(f(11, n(0)), f(12, tx("")))},
		{msg(f(5, sub(f(1, n(1)), f(2, tx("a"))))), msg(f(5, sub(f(1, n(2)), f(21, n(0))))), msg(f(5, sub(f(1, n(2)), f(2, tx("a")), f(21, n(0)))))},
		{msg(f(13, sub(f(1, n(1))))), msg(f(13, sub())), msg(f(13, sub(f(1, n(1)))))},
		{msg(f(21, n(1), n(0))), msg(f(21, n(2))), msg(f(21, n(1), n(0), n(2)))},
		{msg(f(23, sub(f(1, n(1))))), msg(f(23, sub(), sub())), msg(f(23, sub(f(1, n(1))), sub(), sub()))},
		{msg(f(31, n(-3), tx("a"), n(-1), tx("b"), n(2), tx("c"))), msg(f(31, n(-2), tx("A"), n(-1), tx("B"), n(3), tx("C"))),
			msg(f(31, n(-3), tx("a"), n(-2), tx("A"), n(-1), tx("B"), n(2), tx("c"), n(3), tx("C")))},
		{msg(f(31, n(5), tx("a"))), msg(f(31, n(1), tx("b"))), msg(f(31, n(1), tx("b"), n(5), tx("a")))},
		{msg(f(31, n(1), tx("a"))), msg(f(31, n(5), tx("b"))), msg(f(31, n(1), tx("a"), n(5), tx("b")))},
		{msg(f(31, n(1), tx("a"))), msg(f(31, n(1), tx("b"))), msg(f(31, n(1), tx("b")))},
		{msg(f(32, tx("a"), sub(f(1, n(1))))), msg(f(32, tx("a"), sub(f(2, tx("x"))))), msg(f(32, tx("a"), sub(f(2, tx("x")))))},
		{msg(f(41, n(1))), msg(f(42, tx(""))), msg(f(42, tx("")))},
		{msg(f(42, tx("a"))), msg(f(41, n(0))), msg(f(41, n(0)))},
		{msg(f(41, n(1)), f(44, n(1))), msg(f(45, n(1))), msg(f(41, n(1)), f(45, n(1)))},
		{msg(f(43, sub(f(1, n(1))))), msg(f(43, sub(f(2, tx("a"))))), msg(f(43, sub(f(1, n(1)), f(2, tx("a")))))},
		{msg(f(43, sub(f(1, n(1))))), msg(f(41, n(5))), msg(f(41, n(5)))},
		{rest("\x98\x03\x01"), rest("\x98\x03\x02"), rest("\x98\x03\x01\x98\x03\x02")},
		{msg(f(5, in(rest("\x98\x03\x01")))), msg(f(5, in(rest("\x98\x03\x02")))), msg(f(5, in(rest("\x98\x03\x01\x98\x03\x02"))))},
	} {
		got := Merge(s, "M", x.a, x.b)
		if !Same(got, x.want) || !Fits(s, "M", got) {
			t.Errorf("%d: %v", i, got)
		}
	}
	a, b := msg(f(5, sub(f(21, n(1), n(2)))), f(23, sub(f(1, n(1))))), msg(f(24, n(1)))
	got := Merge(s, "M", a, b)
	got.Fields[0].L[0].M.Fields[0].L[0].N, got.Fields[1].L[0].M.Fields[0].Num, got.Fields[2].L[0].N = 9, 9, 9
	if !Same(a, msg(f(5, sub(f(21, n(1), n(2)))), f(23, sub(f(1, n(1)))))) || !Same(b, msg(f(24, n(1)))) {
		t.Error("what is told is the arguments' memory")
	}
}

// P15.1
func TestSame(t *testing.T) {
	l := []api.Msg{{}, rest("a"), msg(f(1)), msg(f(2)), msg(f(1, n(1))), msg(f(1, n(2))), msg(f(1, tx("a"))), msg(f(1, n(1), n(1))), msg(f(1, n(1)), f(2, n(1))), deep, msg(f(1, in(deep)))}
	for i, a := range l {
		for k, b := range l {
			if Same(a, b) != (i == k) {
				t.Errorf("%v, %v", a, b)
			}
		}
	}
	if !Same(api.Msg{Fields: []api.Field{}}, api.Msg{}) || !Same(msg(api.Field{Num: 1, L: []api.Val{}}), msg(f(1))) {
		t.Error("nil and an empty list are one")
	}
}

// P15.1
func TestSize(t *testing.T) {
	for _, x := range []struct {
		m            api.Msg
		depth, count int
	}{
		{api.Msg{}, 1, 0},
		{rest("\x98\x03\x01"), 1, 0},
		{msg(f(1, n(1)), f(2, tx("a"))), 1, 2},
		{msg(f(21, n(1), n(-1)), f(31, n(1), tx("a"), n(2), tx("b"))), 1, 6},
		{msg(f(4, n(0))), 1, 1},
		{msg(f(21, n(0), n(1))), 1, 2},
		{msg(f(21, n(1), n(0), n(0))), 1, 3},
		{msg(f(22, tx(""))), 1, 1},
		{msg(f(22, tx(""), tx("a"))), 1, 2},
		{msg(f(31, n(0), tx(""))), 1, 2},
		{msg(f(42, tx("")), f(45, n(0))), 1, 2},
		{msg(f(5, in(api.Msg{}))), 1, 1},
		{msg(f(5, in(msg(f(11, n(0)))))), 2, 2},
		{msg(f(32, tx(""), in(msg(f(12, tx("")), f(21, n(0), n(1)))))), 2, 5},
		{msg(f(5, in(msg(f(1, n(0)), f(5, in(msg(f(1, n(0))))), f(6, n(0)))))), 3, 5},
		{msg(f(5, in(msg(f(5, in(api.Msg{})))))), 2, 2},
		{msg(f(5, in(msg(f(1, n(1)))))), 2, 2},
		{msg(f(5, in(rest("\x98\x03\x01")))), 2, 1},
		{msg(f(23, in(msg(f(1, n(1)))), in(msg(f(23, in(msg(f(1, n(1)))), in(msg(f(2, tx("a"))))))))), 3, 7},
	} {
		depth, count := Size(x.m)
		if depth != x.depth || count != x.count {
			t.Errorf("%v: %d %d", x.m, depth, count)
		}
	}
}

// R1: schemas that may not be.
func TestOddSchemas(t *testing.T) {
	for _, p := range []api.PField{{Num: 1}, {Num: 1, Kind: 99, Label: 99}, {Num: 1, Kind: api.KMessage, Type: "none"}, {Num: 1, Kind: api.KMessage, Label: api.Mapped, Type: "M"}, {Num: 1, Oneof: -1, Kind: api.KInt32}} {
		s := api.PSchema{Messages: []api.PMessage{{Name: "M", Fields: []api.PField{p, p}}}}
		m := msg(f(1, n(1), n(2), n(3)), f(1), f(0, in(deep)))
		Fits(s, "M", m)
		Fits(s, "M", msg(f(1, n(1), n(1))))
		Merge(s, "M", m, m)
		Merge(s, "N", m, m)
		Merge(s, "M", m, api.Msg{})
	}
}
