package tojson

import (
	"strings"
	"testing"

	"proclitic/api"
	"proclitic/aval"
	"proclitic/avsc"
	"proclitic/json"
)

func from(t *testing.T, s string) api.ASchema {
	n, e := json.Parse(s)
	if e != api.OK {
		t.Fatalf("%s: %d", s, e)
	}
	a, e := avsc.From(n)
	if e != api.OK {
		t.Fatalf("%s: %d", s, e)
	}
	return a
}

func av(v int64) api.AVal           { return api.AVal{N: uint64(v)} }
func at(s string) api.AVal          { return api.AVal{S: s} }
func al(l ...api.AVal) api.AVal     { return api.AVal{L: l} }
func un(b int, v api.AVal) api.AVal { return api.AVal{Branch: b, L: []api.AVal{v}} }
func mp(keys string, l ...api.AVal) api.AVal {
	return api.AVal{Keys: strings.Split(keys, " "), L: l}
}

const (
	array  = `{"type":"array","items":"int"}`
	maps   = `{"type":"map","values":"long"}`
	enum   = `{"type":"enum","name":"E","symbols":["A","B"]}`
	fixed  = `{"type":"fixed","name":"F","size":2}`
	record = `{"type":"record","name":"x.R","fields":[{"name":"a","type":"int"},{"name":"b","type":["null","R"]}]}`
	called = `["int",{"type":"record","name":"null","fields":[]},{"type":"array","items":"int"}]`
)

// P28.2
func TestAvro(t *testing.T) {
	for _, x := range []struct {
		s    string
		v    api.AVal
		want string
	}{
		{`"null"`, api.AVal{}, `null`},
		{`"boolean"`, av(1), `true`},
		{`"boolean"`, av(0), `false`},
		{`"int"`, av(-1 << 31), `-2147483648`},
		{`"long"`, av(-1 << 63), `"-9223372036854775808"`},
		{`"long"`, av(0), `"0"`},
		{`"float"`, av(0), `"0x00000000"`},
		{`"double"`, av(-1), `"0xffffffffffffffff"`},
		{`"bytes"`, at("a"), `"YQ=="`},
		{`"string"`, at("é\""), `"é\""`},
		{fixed, at("\x00\xff"), `"AP8="`},
		{enum, av(1), `"B"`},
		{enum, av(0), `"A"`},
		{array, al(av(1), av(-2)), `[1,-2]`},
		{array, api.AVal{}, `[]`},
		{maps, mp(" a", av(1), av(2)), `{"":"1","a":"2"}`},
		{maps, api.AVal{}, `{}`},
		{`["null","int",` + enum + `,` + maps + `]`, un(0, av(0)), `null`},
		{`["null","int",` + enum + `,` + maps + `]`, un(1, av(5)), `{"int":5}`},
		{`["null","int",` + enum + `,` + maps + `]`, un(2, av(1)), `{"E":"B"}`},
		{`["null","int",` + enum + `,` + maps + `]`, un(3, mp("null", av(1))), `{"map":{"null":"1"}}`},
		{record, al(av(1), un(1, al(av(2), un(0, av(0))))), `{"a":1,"b":{"x.R":{"a":2,"b":null}}}`},
		{`{"type":"record","name":"R","fields":[]}`, api.AVal{}, `{}`},
		{called, un(1, api.AVal{}), `{"null":{}}`},
		{called, un(2, al(av(1))), `{"array":[1]}`},
	} {
		s := from(t, x.s)
		tree, e := Avro(s, 0, x.v)
		if got := json.Print(tree); e != api.OK || got != x.want || !json.May(tree) {
			t.Errorf("%s: %s %d, not %s", x.s, got, e, x.want)
		}
		if back, e := FromAvro(s, 0, tree); e != api.OK || !aval.Same(back, x.v) {
			t.Errorf("%s: %s: %v %d", x.s, x.want, back, e)
		}
	}
	s := from(t, `"int"`)
	for _, i := range []int{-1, 1} {
		if _, e := Avro(s, i, at("a")); e != api.ErrArg {
			t.Errorf("of no type: %d", e)
		}
		if _, e := FromAvro(s, i, api.JNode{}); e != api.ErrArg {
			t.Errorf("of no type: %d", e)
		}
	}
	if tree, e := Avro(s, 0, av(1<<31)); e != api.ErrType || tree.Kind != 0 {
		t.Errorf("of no value: %d", e)
	}
}

// P28.2
func TestFromAvroErrors(t *testing.T) {
	deep := func(n int, inner string) string {
		return strings.Repeat(`{"a":1,"b":{"x.R":`, n) + inner + strings.Repeat("}}", n)
	}
	for _, x := range []struct {
		s, tree string
		e       api.Errno
	}{
		{`"null"`, `0`, api.ErrType},
		{`"boolean"`, `1`, api.ErrType},
		{`"int"`, `"1"`, api.ErrType},
		{`"int"`, `2147483648`, api.ErrType},
		{`"long"`, `1`, api.ErrType},
		{`"long"`, `"01"`, api.ErrType},
		{`"long"`, `"9223372036854775808"`, api.ErrType},
		{`"float"`, `"0x0000000000000000"`, api.ErrType},
		{`"double"`, `"0x00000000"`, api.ErrType},
		{`"double"`, `"0x000000000000000A"`, api.ErrType},
		{`"bytes"`, `"a"`, api.ErrType},
		{`"string"`, `null`, api.ErrType},
		{fixed, `"YQ=="`, api.ErrType},
		{fixed, `"YWJj"`, api.ErrType},
		{enum, `"C"`, api.ErrType},
		{enum, `0`, api.ErrType},
		{array, `{}`, api.ErrType},
		{array, `["1"]`, api.ErrType},
		{maps, `[]`, api.ErrType},
		{maps, `{"b":"1","a":"1"}`, api.ErrType},
		{maps, `{"b":1}`, api.ErrType},
		{`["int","null"]`, `1`, api.ErrType},
		{`["int","null"]`, `{}`, api.ErrType},
		{`["int","null"]`, `{"null":null}`, api.ErrType},
		{`["int","null"]`, `{"long":"1"}`, api.ErrType},
		{`["int","null"]`, `{"int":1,"null":null}`, api.ErrType},
		{`["int"]`, `null`, api.ErrType},
		{called, `null`, api.ErrType},
		{called, `{"null":null}`, api.ErrType},
		{record, `{"a":1}`, api.ErrType},
		{record, `{"b":null,"a":1}`, api.ErrType},
		{record, `{"a":1,"b":null,"c":1}`, api.ErrType},
		{record, `{"a":1,"b":{"R":{"a":1,"b":null}}}`, api.ErrType},
		{record, deep(8, `{"a":1,"b":null}`), api.OK},
		{record, deep(9, `{"a":1,"b":null}`), api.ErrLimit},
		{record, deep(9, `{"a":"x","b":null}`), api.ErrType},
		{record, deep(9, `{"a":1}`), api.ErrType},
	} {
		s := from(t, x.s)
		tree, e := json.Parse(x.tree)
		if e != api.OK {
			t.Fatalf("%s: %d", x.tree, e)
		}
		v, e := FromAvro(s, 0, tree)
		if e != x.e || e != api.OK && !aval.Same(v, api.AVal{}) {
			t.Errorf("%s: %.60s: %v %d, not %d", x.s, x.tree, v, e, x.e)
		}
		if e == api.OK {
			if back, e := Avro(s, 0, v); e != api.OK || !json.Same(back, tree) {
				t.Errorf("%s: %s", x.tree, json.Print(back))
			}
		}
	}
	twice := api.JNode{Kind: api.JTable, Names: []string{"a", "a"}, L: []api.JNode{{Kind: api.JText, S: "1"}, {Kind: api.JText, S: "1"}}}
	if _, e := FromAvro(from(t, maps), 0, twice); e != api.ErrType {
		t.Errorf("a key twice: %d", e)
	}
	rows := from(t, `{"type":"record","name":"R","fields":[{"name":"a","type":{"type":"array","items":"R"}}]}`)
	leaf := api.JNode{Kind: api.JTable, Names: []string{"a"}, L: []api.JNode{{Kind: api.JList}}}
	for i := range 12 {
		want := api.OK
		if i > 9 {
			want = api.ErrLimit
		}
		if v, e := FromAvro(rows, 0, leaf); e != want || e == api.OK && !aval.Fits(rows, 0, v) {
			t.Errorf("%d: %d", i, e)
		}
		leaf = api.JNode{Kind: api.JTable, Names: []string{"a"}, L: []api.JNode{{Kind: api.JList, L: []api.JNode{leaf}}}}
	}
}

// R1: what may not be.
func TestOdd(t *testing.T) {
	trees := []api.JNode{{}, {Kind: api.JNull}, {Kind: api.JTable, Names: []string{"union"}}, {Kind: api.JTable, Names: []string{"union"}, L: []api.JNode{{Kind: api.JList, L: []api.JNode{{}}}}}, {Kind: api.JList, L: []api.JNode{{}}}}
	for _, s := range []api.ASchema{
		{Types: []api.AType{{}}},
		{Types: []api.AType{{Kind: api.AUnion, Branches: []int{0, -1, 9}}}},
		{Types: []api.AType{{Kind: api.AArray, Items: 9}}},
		{Types: []api.AType{{Kind: api.AArray, Items: 0}}},
	} {
		for _, n := range trees {
			FromAvro(s, 0, n)
		}
	}
}
