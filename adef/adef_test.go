package adef

import (
	"fmt"
	"reflect"
	"strings"
	"testing"

	"proclitic/api"
	"proclitic/avsc"
	"proclitic/json"
)

func tree(t *testing.T, s string) api.JNode {
	n, e := json.Parse(s)
	if e != api.OK {
		t.Fatalf("%s: %d", s, e)
	}
	return n
}

func from(t *testing.T, s string) api.ASchema {
	a, e := avsc.From(tree(t, s))
	if e != api.OK {
		t.Fatalf("%s: %d", s, e)
	}
	return a
}

// record writes a record of fields that are written as "name type" or "name type default".
func record(name string, fields ...string) string {
	var l []string
	for _, x := range fields {
		p := strings.SplitN(x, " ", 3)
		s := fmt.Sprintf(`{"name":"%s","type":%s`, p[0], p[1])
		if len(p) > 2 {
			s += `,"default":` + p[2]
		}
		l = append(l, s+"}")
	}
	return `{"type":"record","name":"` + name + `","fields":[` + strings.Join(l, ",") + `]}`
}

const fixed, enum = `{"type":"fixed","name":"F","size":2}`, `{"type":"enum","name":"E","symbols":["A","B"]}`

// P14.1
func TestValue(t *testing.T) {
	in := func(l ...api.AVal) api.AVal { return api.AVal{L: l} }
	n := func(v uint64) api.AVal { return api.AVal{N: v} }
	for _, x := range []struct {
		schema, def string
		v           api.AVal
	}{
		{`"null"`, `null`, api.AVal{}},
		{`"boolean"`, `true`, n(1)},
		{`"boolean"`, `false`, n(0)},
		{`"int"`, `5`, n(5)},
		{`"int"`, `-2147483648`, n(1<<64 - 1<<31)},
		{`"int"`, `2147483647`, n(1<<31 - 1)},
		{`"long"`, `-9223372036854775808`, n(1 << 63)},
		{`"float"`, `16777217`, n(0x4b800000)},
		{`"float"`, `-1`, n(0xbf800000)},
		{`"double"`, `-1`, n(0xbff0000000000000)},
		{`"bytes"`, `"a\u00ff\u0000"`, api.AVal{S: "a\xff\x00"}},
		{fixed, `"\u0080é"`, api.AVal{S: "\x80\xe9"}},
		{`"string"`, `"é😀"`, api.AVal{S: "é😀"}},
		{enum, `"B"`, n(1)},
		{enum, `"A"`, n(0)},
		{`{"type":"array","items":"int"}`, `[1,2]`, in(n(1), n(2))},
		{`{"type":"array","items":"int"}`, `[]`, api.AVal{}},
		{`{"type":"map","values":"int"}`, `{"b":1,"a":2,"":3}`, api.AVal{Keys: []string{"", "a", "b"}, L: []api.AVal{n(3), n(2), n(1)}}},
		{record("R", `a "int"`, `b "string" "x"`, `c "int" 7`), `{"b":"y","z":[],"a":1}`, in(n(1), api.AVal{S: "y"}, n(7))},
		{`["int","null"]`, `1`, in(n(1))},
		{record("R", `a ["null","R"]`), `{"a":null}`, in(in(api.AVal{}))},
		{record("R", `a ["null","R"] null`), `{}`, in(in(api.AVal{}))},
	} {
		v, e := Value(from(t, x.schema), 0, tree(t, x.def))
		if e != api.OK || !reflect.DeepEqual(v, x.v) {
			t.Errorf("%s, %s: %v %d", x.schema, x.def, v, e)
		}
	}
}

// P14.1
func TestValueErrors(t *testing.T) {
	for _, x := range []struct {
		schema, def string
		e           api.Errno
	}{
		{`"null"`, `0`, api.ErrType},
		{`"boolean"`, `1`, api.ErrType},
		{`"boolean"`, `null`, api.ErrType},
		{`"int"`, `2147483648`, api.ErrType},
		{`"int"`, `-2147483649`, api.ErrType},
		{`"int"`, `"1"`, api.ErrType},
		{`"long"`, `true`, api.ErrType},
		{`"float"`, `"1"`, api.ErrType},
		{`"double"`, `null`, api.ErrType},
		{`"bytes"`, `"\u0100"`, api.ErrType},
		{`"bytes"`, `1`, api.ErrType},
		{fixed, `"a"`, api.ErrType},
		{fixed, `"abc"`, api.ErrType},
		{fixed, `"a\u0100"`, api.ErrType},
		{`"string"`, `1`, api.ErrType},
		{enum, `"C"`, api.ErrType},
		{enum, `0`, api.ErrType},
		{`{"type":"array","items":"int"}`, `{}`, api.ErrType},
		{`{"type":"array","items":"int"}`, `[1,"a"]`, api.ErrType},
		{`{"type":"map","values":"int"}`, `[]`, api.ErrType},
		{`{"type":"map","values":"int"}`, `{"a":null}`, api.ErrType},
		{record("R", `a "int"`), `{}`, api.ErrType},
		{record("R", `a "int"`), `[1]`, api.ErrType},
		{record("R", `a "int" "x"`), `{}`, api.ErrType},
		{record("R", `a "int" 1`), `[]`, api.ErrType},
		{record("R", `a "int" 1`), `null`, api.ErrType},
		{record("R", `a {"type":"map","values":"R"}`), strings.Repeat(`{"a":{"k":`, 9) + `{"a":{}}` + strings.Repeat("}}", 9), api.OK},
		{record("R", `a {"type":"map","values":["R"]}`), strings.Repeat(`{"a":{"k":`, 6) + `{"a":{}}` + strings.Repeat("}}", 6), api.OK},
		{record("R", `a {"type":"map","values":["R"]}`), strings.Repeat(`{"a":{"k":`, 7) + `{"a":{}}` + strings.Repeat("}}", 7), api.ErrLimit},
		{`["null","int"]`, `1`, api.ErrType},
		{record("R", `a "R"`), `{}`, api.ErrType},
		{record("R", `a "R" {}`), `{}`, api.ErrLimit},
		{record("R", `a "R" {}`, `b "int" "x"`), `{}`, api.ErrLimit},
		{record("R", `b "int" "x"`, `a "R" {}`), `{}`, api.ErrType},
		{record("R", `a "int"`, `b "R" {}`), `{"a":1}`, api.ErrType},
	} {
		v, e := Value(from(t, x.schema), 0, tree(t, x.def))
		if e != x.e || e != api.OK && !reflect.DeepEqual(v, api.AVal{}) {
			t.Errorf("%s, %s: %v %d", x.schema, x.def, v, e)
		}
	}
	s := from(t, `"int"`)
	for _, i := range []int{-1, 1} {
		if _, e := Value(s, i, api.JNode{}); e != api.ErrArg {
			t.Errorf("of no type: %d", e)
		}
	}
}

// P14.1
func TestCaps(t *testing.T) {
	self := from(t, record("R", `a {"type":"array","items":"R"}`))
	deep := func(n int) string { return strings.Repeat(`{"a":[`, n) + strings.Repeat("]}", n) }
	if _, e := Value(self, 0, tree(t, deep(10))); e != api.OK {
		t.Errorf("20 values deep: %d", e)
	}
	if _, e := Value(self, 0, api.JNode{Kind: api.JTable, Names: []string{"a"}, L: []api.JNode{{Kind: api.JList, L: []api.JNode{tree(t, deep(10))}}}}); e != api.ErrLimit {
		t.Errorf("22 values deep: %d", e)
	}
	odd := from(t, `[{"type":"array","items":["int"]}]`)
	if v, e := Value(odd, 0, tree(t, `[1]`)); e != api.OK || len(v.L[0].L[0].L) != 1 {
		t.Errorf("a union's value is one deeper: %v %d", v, e)
	}
	row := from(t, `{"type":"array","items":"null"}`)
	nulls := func(n int) api.JNode {
		l := make([]api.JNode, n)
		for i := range l {
			l[i].Kind = api.JNull
		}
		return api.JNode{Kind: api.JList, L: l}
	}
	if _, e := Value(row, 0, nulls(api.MaxNodes-1)); e != api.OK {
		t.Errorf("as many as may be: %d", e)
	}
	if _, e := Value(row, 0, nulls(api.MaxNodes)); e != api.ErrLimit {
		t.Errorf("one too many: %d", e)
	}
	wrong := nulls(api.MaxNodes)
	wrong.L[5].Kind = api.JInt
	if _, e := Value(row, 0, wrong); e != api.ErrType {
		t.Errorf("the first error: %d", e)
	}
}

// P14.2
func TestCheck(t *testing.T) {
	for _, x := range []struct {
		s        string
		e        api.Errno
		t, field int
	}{
		{`"int"`, api.OK, 0, 0},
		{record("R", `a "int"`, `b "int" 1`), api.OK, 0, 0},
		{record("R", `a "int"`, `b "int" "x"`, `c "int" "x"`), api.ErrType, 0, 1},
		{record("R", `a `+record("S", `x "int" 1`, `y "int" null`), `b "int" "x"`), api.ErrType, 0, 1},
		{`["int",` + record("R", `a `+record("S", `x "int" 1`, `y "int" null`)) + `]`, api.ErrType, 3, 1},
		{record("R", `a "R" {}`), api.ErrLimit, 0, 0},
		{record("R", `a ["null","R"] {}`), api.ErrType, 0, 0},
		{record("R", `a `+record("S", `x "int"`)+` {}`), api.ErrType, 0, 0},
		{record("R", `a `+record("S", `x "int" 1`)+` {}`), api.OK, 0, 0},
	} {
		e, i, field := Check(from(t, x.s))
		if e != x.e || i != x.t || field != x.field {
			t.Errorf("%s: %d %d %d", x.s, e, i, field)
		}
	}
}

// P14.1: keys that no value has.
func TestOddKeys(t *testing.T) {
	s := from(t, `{"type":"map","values":"null"}`)
	null := api.JNode{Kind: api.JNull}
	for _, names := range [][]string{{"\xff", "a"}, {"a", "\xff"}, {"a", "a"}, {"a"}, {"a", "b", "c"}} {
		if v, e := Value(s, 0, api.JNode{Kind: api.JTable, Names: names, L: []api.JNode{null, null}}); e != api.ErrType {
			t.Errorf("%q: %v %d", names, v, e)
		}
	}
	deep := null
	for range 10 {
		deep = api.JNode{Kind: api.JTable, Names: []string{"a"}, L: []api.JNode{{Kind: api.JTable, Names: []string{"k"}, L: []api.JNode{deep}}}}
	}
	if _, e := Value(from(t, record("R", `a {"type":"map","values":"R"}`)), 0, deep); e != api.ErrLimit {
		t.Errorf("21 deep: %d", e)
	}
}

// R1: what may not be.
func TestOdd(t *testing.T) {
	table := api.JNode{Kind: api.JTable, Names: []string{"a", "b"}, L: []api.JNode{{Kind: api.JNull}}}
	for _, s := range []api.ASchema{
		{Types: []api.AType{{}}},
		{Types: []api.AType{{Kind: api.AUnion}}},
		{Types: []api.AType{{Kind: api.AUnion, Branches: []int{0}}}},
		{Types: []api.AType{{Kind: api.AMap, Items: -1}}},
		{Types: []api.AType{{Kind: api.ARecord, Fields: []api.AField{{Name: "a", Type: 3}}}}},
	} {
		if v, e := Value(s, 0, table); e == api.OK || v.L != nil {
			t.Errorf("%v: %v %d", s, v, e)
		}
		Check(s)
	}
}
