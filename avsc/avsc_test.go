package avsc

import (
	"fmt"
	"reflect"
	"slices"
	"strings"
	"testing"

	"proclitic/api"
	"proclitic/json"
)

func from(t *testing.T, s string) (api.ASchema, api.Errno) {
	n, e := json.Parse(s)
	if e != api.OK {
		t.Fatalf("%s: %d", s, e)
	}
	return From(n)
}

func types(l ...api.AType) api.ASchema { return api.ASchema{Types: l} }

// P11.1
func TestFrom(t *testing.T) {
	for s, want := range map[string]api.ASchema{
		`"null"`:               types(api.AType{Kind: api.ANull}),
		`"boolean"`:            types(api.AType{Kind: api.ABool}),
		`"int"`:                types(api.AType{Kind: api.AInt}),
		`"long"`:               types(api.AType{Kind: api.ALong}),
		`"float"`:              types(api.AType{Kind: api.AFloat}),
		`"double"`:             types(api.AType{Kind: api.ADouble}),
		`"bytes"`:              types(api.AType{Kind: api.ABytes}),
		`"string"`:             types(api.AType{Kind: api.AString}),
		`{"type":"int","x":1}`: types(api.AType{Kind: api.AInt}),
		`{"type":{"type":["int"]}}`: types(
			api.AType{Kind: api.AUnion, Branches: []int{1}}, api.AType{Kind: api.AInt}),
		`{"type":"array","items":{"type":"map","values":"long"}}`: types(
			api.AType{Kind: api.AArray, Items: 1}, api.AType{Kind: api.AMap, Items: 2}, api.AType{Kind: api.ALong}),
		`["null","int",{"type":"array","items":"int"},{"type":"map","values":"int"},{"type":"fixed","name":"F","size":5000}]`: types(
			api.AType{Kind: api.AUnion, Branches: []int{1, 2, 3, 5, 7}}, api.AType{Kind: api.ANull}, api.AType{Kind: api.AInt},
			api.AType{Kind: api.AArray, Items: 4}, api.AType{Kind: api.AInt}, api.AType{Kind: api.AMap, Items: 6}, api.AType{Kind: api.AInt},
			api.AType{Kind: api.AFixed, Name: "F", Size: 5000}),
		`{"type":"enum","name":"E","symbols":["A","_b1"],"default":"A","aliases":["x.Y","Z"],"namespace":"n.m","doc":"."}`: types(
			api.AType{Kind: api.AEnum, Name: "n.m.E", Aliases: []string{"x.Y", "n.m.Z"}, Syms: []string{"A", "_b1"}, HasDef: true, Def: "A"}),
		`{"type":"record","name":"R","fields":[]}`: types(api.AType{Kind: api.ARecord, Name: "R"}),
		`{"type":"record","name":"a.R","fields":[
			{"name":"next","type":["null","R"],"default":null,"aliases":["n1","n2"]},
			{"name":"e","type":{"type":"enum","name":"E","symbols":["A"]},"order":"ignore"},
			{"name":"f","type":"E","default":{"x":[1]}},
			{"name":"g","type":"a.E"}]}`: types(
			api.AType{Kind: api.ARecord, Name: "a.R", Fields: []api.AField{
				{Name: "next", Aliases: []string{"n1", "n2"}, Type: 1, HasDef: true, Def: api.JNode{Kind: api.JNull}},
				{Name: "e", Type: 3},
				{Name: "f", Type: 3, HasDef: true, Def: api.JNode{Kind: api.JTable, Names: []string{"x"}, L: []api.JNode{{Kind: api.JList, L: []api.JNode{{Kind: api.JInt, N: 1}}}}}},
				{Name: "g", Type: 3},
			}},
			api.AType{Kind: api.AUnion, Branches: []int{2, 0}}, api.AType{Kind: api.ANull},
			api.AType{Kind: api.AEnum, Name: "a.E", Syms: []string{"A"}}),
	} {
		if got, e := from(t, s); e != api.OK || !reflect.DeepEqual(got, want) {
			t.Errorf("%s: %+v %d", s, got, e)
		}
	}
}

// P11.2
func TestNamespaces(t *testing.T) {
	fixed := func(more string) string { return `{"type":"fixed","size":1,` + more + `}` }
	record := func(name string, l ...string) string {
		var fields []string
		for i, x := range l {
			fields = append(fields, fmt.Sprintf(`{"name":"f%d","type":%s}`, i, x))
		}
		return `{"type":"record",` + name + `,"fields":[` + strings.Join(fields, ",") + `]}`
	}
	for _, x := range []struct{ s, names string }{
		{fixed(`"name":"a.b.F","namespace":"c"`), "a.b.F"},
		{fixed(`"name":"F","namespace":"c.d"`), "c.d.F"},
		{fixed(`"name":"F","namespace":""`), "F"},
		{record(`"name":"a.R"`, fixed(`"name":"F"`), fixed(`"name":"F","namespace":"b"`), fixed(`"name":"F","namespace":""`), `"F"`, `"b.F"`), "a.R a.F b.F F"},
		{record(`"name":"R","namespace":"a"`, record(`"name":"b.S"`, fixed(`"name":"F"`), `"R"`), fixed(`"name":"F"`)), "api.ErrName"},
		{record(`"name":"R","namespace":"a"`, record(`"name":"b.S"`, fixed(`"name":"F"`), `"a.R"`), fixed(`"name":"F"`), `"R"`), "a.R b.S b.F a.F"},
		{record(`"name":"R"`, record(`"name":"b.S"`, fixed(`"name":"F"`), `"R"`)), "R b.S b.F"},
		{record(`"name":"a.R"`, record(`"name":"S","namespace":""`, fixed(`"name":"F"`))), "a.R S F"},
		{record(`"name":"a.R"`, `{"type":"array","items":`+fixed(`"name":"F"`)+`}`), "a.R a.F"},
	} {
		s, e := from(t, x.s)
		var names []string
		for _, a := range s.Types {
			if a.Name != "" {
				names = append(names, a.Name)
			}
		}
		got := strings.Join(names, " ")
		if e == api.ErrName {
			got = "api.ErrName"
		}
		if got != x.names {
			t.Errorf("%s: %s %d", x.s, got, e)
		}
	}
	s, _ := from(t, record(`"name":"a.R"`, fixed(`"name":"F"`), fixed(`"name":"F","namespace":""`), `"F"`, `"a.F"`))
	if f := s.Types[0].Fields; f[2].Type != f[0].Type || f[3].Type != f[0].Type {
		t.Errorf("the namespace around it is not first: %v", f)
	}
}

// P11.2: aliases of types have the namespace of their type's whole name, wherever it comes from.
func TestAliases(t *testing.T) {
	forms := []string{`{"type":"record",#,"fields":[]}`, `{"type":"enum",#,"symbols":["A"]}`, `{"type":"fixed",#,"size":1}`}
	for _, x := range []struct {
		head string
		want []string
	}{
		{`"name":"R"`, nil},
		{`"name":"R","aliases":[]`, nil},
		{`"name":"R","aliases":["Q","x.P"]`, []string{"o.p.Q", "x.P"}},
		{`"name":"c.R","aliases":["Q","x.P"]`, []string{"c.Q", "x.P"}},
		{`"name":"b.c.R","aliases":["x.P","Q","Q"]`, []string{"x.P", "b.c.Q", "b.c.Q"}},
		{`"name":"R","namespace":"n","aliases":["Q","x.P"]`, []string{"n.Q", "x.P"}},
		{`"name":"R","namespace":"n.m","aliases":["Q"]`, []string{"n.m.Q"}},
		{`"name":"R","namespace":"","aliases":["Q","x.P"]`, []string{"Q", "x.P"}},
		{`"name":"c.R","namespace":"n","aliases":["Q","x.P"]`, []string{"c.Q", "x.P"}},
		{`"name":"c.R","namespace":"","aliases":["Q"]`, []string{"c.Q"}},
	} {
		for _, form := range forms {
			s, e := from(t, `{"type":"record","name":"o.p.O","fields":[{"name":"f","type":`+strings.Replace(form, "#", x.head, 1)+`}]}`)
			if e != api.OK || len(s.Types) != 2 || !slices.Equal(s.Types[1].Aliases, x.want) {
				t.Errorf("%s: %d %v", x.head, e, s.Types)
			}
		}
	}
	for _, form := range forms {
		for head, want := range map[string]string{`"name":"R","aliases":["Q"]`: "Q", `"name":"a.R","aliases":["Q"]`: "a.Q", `"name":"a.b.R","aliases":["Q"]`: "a.b.Q"} {
			s, e := from(t, strings.Replace(form, "#", head, 1))
			if e != api.OK || len(s.Types) != 1 || !slices.Equal(s.Types[0].Aliases, []string{want}) {
				t.Errorf("alone: %s: %d %v", head, e, s.Types)
			}
		}
	}
}

// many writes n parts with commas between, each of a form with a number in it.
func many(n int, form string) string {
	var l []string
	for i := range n {
		l = append(l, strings.ReplaceAll(form, "#", fmt.Sprint(i)))
	}
	return strings.Join(l, ",")
}

// P11.1
func TestFromErrors(t *testing.T) {
	record := func(fields string) string { return `{"type":"record","name":"R","fields":[` + fields + `]}` }
	arrays := func(n int, inner string) string {
		return strings.Repeat(`{"type":"array","items":`, n) + inner + strings.Repeat("}", n)
	}
	for _, x := range []struct {
		s string
		e api.Errno
	}{
		{`null`, api.ErrMalformed},
		{`1`, api.ErrMalformed},
		{`true`, api.ErrMalformed},
		{`"x"`, api.ErrName},
		{`"union"`, api.ErrName},
		{`"record"`, api.ErrName},
		{`""`, api.ErrName},
		{`{}`, api.ErrMalformed},
		{`{"type":null}`, api.ErrMalformed},
		{`{"type":"x"}`, api.ErrName},
		{`{"type":"array"}`, api.ErrMalformed},
		{`{"type":"array","items":1}`, api.ErrMalformed},
		{`{"type":"array","values":"int"}`, api.ErrMalformed},
		{`{"type":"map","items":"int"}`, api.ErrMalformed},
		{`[]`, api.ErrRule},
		{`["int","int"]`, api.ErrRule},
		{`["int",{"type":"int"}]`, api.ErrRule},
		{`["int",["long"]]`, api.ErrRule},
		{`["int",{"type":["long"]}]`, api.ErrRule},
		{`["int",{"type":"array","items":"int"},{"type":"array","items":"long"}]`, api.ErrRule},
		{`["int",{"type":"array","items":["int","long"]}]`, api.OK},
		{`[{"type":"fixed","name":"F","size":1},"F"]`, api.ErrRule},
		{`[{"type":"fixed","name":"F","size":1},{"type":"fixed","name":"G","size":1}]`, api.OK},
		{`["int",1]`, api.ErrMalformed},
		{`{"type":"fixed","size":1}`, api.ErrMalformed},
		{`{"type":"fixed","name":1,"size":1}`, api.ErrMalformed},
		{`{"type":"fixed","name":"","size":1}`, api.ErrRule},
		{`{"type":"fixed","name":"1a","size":1}`, api.ErrRule},
		{`{"type":"fixed","name":"a-b","size":1}`, api.ErrRule},
		{`{"type":"fixed","name":".a","size":1}`, api.ErrRule},
		{`{"type":"fixed","name":"a..b","size":1}`, api.ErrRule},
		{`{"type":"fixed","name":"é","size":1}`, api.ErrRule},
		{`{"type":"fixed","name":"F","namespace":1,"size":1}`, api.ErrMalformed},
		{`{"type":"fixed","name":"F","namespace":"1","size":1}`, api.ErrRule},
		{`{"type":"fixed","name":"F","aliases":"a","size":1}`, api.ErrMalformed},
		{`{"type":"fixed","name":"F","aliases":[1],"size":1}`, api.ErrMalformed},
		{`{"type":"fixed","name":"F","aliases":["a b"],"size":1}`, api.ErrRule},
		{`{"type":"fixed","name":"F"}`, api.ErrMalformed},
		{`{"type":"fixed","name":"F","size":"1"}`, api.ErrMalformed},
		{`{"type":"fixed","name":"F","size":-1}`, api.ErrRule},
		{`{"type":"fixed","name":"F","size":5001}`, api.ErrRule},
		{`{"type":"fixed","name":"F","size":0}`, api.OK},
		{`{"type":"enum","name":"E"}`, api.ErrMalformed},
		{`{"type":"enum","name":"E","symbols":"A"}`, api.ErrMalformed},
		{`{"type":"enum","name":"E","symbols":[1]}`, api.ErrMalformed},
		{`{"type":"enum","name":"E","symbols":[]}`, api.ErrRule},
		{`{"type":"enum","name":"E","symbols":["a.b"]}`, api.ErrRule},
		{`{"type":"enum","name":"E","symbols":["A","A"]}`, api.ErrTwice},
		{`{"type":"enum","name":"E","symbols":["A"],"default":1}`, api.ErrMalformed},
		{`{"type":"enum","name":"E","symbols":["A"],"default":"B"}`, api.ErrRule},
		{`{"type":"enum","name":"E","symbols":[` + many(30, `"A#"`) + `]}`, api.OK},
		{`{"type":"enum","name":"E","symbols":[` + many(31, `"A#"`) + `]}`, api.ErrLimit},
		{`{"type":"record","name":"R"}`, api.ErrMalformed},
		{`{"type":"record","name":"R","fields":{}}`, api.ErrMalformed},
		{record(`1`), api.ErrMalformed},
		{record(`{"type":"int"}`), api.ErrMalformed},
		{record(`{"name":1,"type":"int"}`), api.ErrMalformed},
		{record(`{"name":"a.b","type":"int"}`), api.ErrRule},
		{record(`{"name":"a"}`), api.ErrMalformed},
		{record(`{"name":"a","type":"x"}`), api.ErrName},
		{record(`{"name":"a","type":"array","items":"int"}`), api.ErrName},
		{record(`{"name":"a","type":"int"},{"name":"a","type":"x"}`), api.ErrTwice},
		{record(`{"name":"a","type":"int","aliases":"b"}`), api.ErrMalformed},
		{record(`{"name":"a","type":"int","aliases":["b.c"]}`), api.ErrRule},
		{record(`{"name":"a","type":"int","aliases":["a","a"]}`), api.OK},
		{record(`{"name":"a","type":{"type":"fixed","name":"R","size":1}}`), api.ErrTwice},
		{record(`{"name":"a","type":{"type":"fixed","name":"F","size":1}},{"name":"b","type":{"type":"enum","name":"F","symbols":[]}}`), api.ErrTwice},
		{record(many(30, `{"name":"f#","type":"int"}`)), api.OK},
		{record(many(31, `{"name":"f#","type":"int"}`)), api.ErrLimit},
		{record(many(30, `{"name":"f#","type":["null","int"]}`)), api.ErrLimit},
		{record(many(29, `{"name":"f#","type":["int"]}`) + `,{"name":"x","type":"int"}`), api.OK},
		{record(many(29, `{"name":"f#","type":["int"]}`) + `,{"name":"x","type":["int"]}`), api.ErrLimit},
		{record(many(29, `{"name":"f#","type":["int"]}`) + `,{"name":"x","type":{"type":"array","items":"R"}}`), api.OK},
		{record(many(29, `{"name":"f#","type":["int"]}`) + `,{"name":"x","type":{"type":"array","items":["R"]}}`), api.ErrLimit},
		{record(many(29, `{"name":"f#","type":["int"]}`) + `,{"name":"x","type":{"type":"array","items":{"type":"map","values":"R"}}}`), api.ErrLimit},
		{record(many(29, `{"name":"f#","type":["int"]}`) + `,{"name":"x","type":{"type":"array","items":{"type":"fixed","name":"F","size":1}}}`), api.ErrLimit},
		{`[` + many(30, `{"type":"fixed","name":"F#","size":1}`) + `]`, api.OK},
		{`[` + many(31, `{"type":"fixed","name":"F#","size":1}`) + `]`, api.ErrLimit},
		{arrays(19, `"int"`), api.OK},
		{arrays(20, `"int"`), api.ErrLimit},
		// of several the first
		{`{"type":"fixed","name":"1","namespace":1}`, api.ErrRule},
		{`{"type":"fixed","name":"F","namespace":"1","aliases":1}`, api.ErrRule},
		{`{"type":"fixed","name":"F","aliases":["1"],"size":-1}`, api.ErrRule},
		{record(`{"name":"a","type":"x","aliases":1}`), api.ErrName},
		{record(`{"name":"a","type":"x"},1`), api.ErrName},
		{`[1,"int","int"]`, api.ErrMalformed},
	} {
		s, e := from(t, x.s)
		if e != x.e || e != api.OK && s.Types != nil {
			t.Errorf("%.120s: %d, not %d", x.s, e, x.e)
		}
	}
}

// P11.1: trees within each other, of each form.
func TestDepth(t *testing.T) {
	text := func(s string) api.JNode { return api.JNode{Kind: api.JText, S: s} }
	list := func(l ...api.JNode) api.JNode { return api.JNode{Kind: api.JList, L: l} }
	table := func(names string, l ...api.JNode) api.JNode {
		return api.JNode{Kind: api.JTable, Names: strings.Fields(names), L: l}
	}
	n := 0
	for i, wrap := range []func(api.JNode) api.JNode{
		func(x api.JNode) api.JNode { return table("type", x) },
		func(x api.JNode) api.JNode { return table("type items", text("array"), x) },
		func(x api.JNode) api.JNode { return table("type values", text("map"), x) },
		func(x api.JNode) api.JNode {
			n++
			return table("type name fields", text("record"), text(fmt.Sprint("R", n)), list(table("name type", text("f"), x)))
		},
	} {
		// The table and the text within a list are two trees more.
		x := list(table("type", text("int")))
		for range 18 {
			x = wrap(x)
		}
		if _, e := From(x); e != api.OK {
			t.Errorf("%d: 20 deep: %d", i, e)
		}
		if _, e := From(wrap(x)); e != api.ErrLimit {
			t.Errorf("%d: 21 deep: %d", i, e)
		}
		if _, e := From(table("type", x)); e != api.ErrLimit {
			t.Errorf("%d: 21 deep: %d", i, e)
		}
	}
}

// P11.2
func TestShortAndTag(t *testing.T) {
	for name, want := range map[string]string{"": "", "a": "a", "a.b.c": "c", "a.": ""} {
		if Short(name) != want {
			t.Errorf("%s: %s", name, Short(name))
		}
	}
	s, _ := from(t, `["null","boolean","int","long","float","double","bytes","string",{"type":"record","name":"a.R","fields":[]},{"type":"enum","name":"E","symbols":["A"]},{"type":"fixed","name":"F","size":1},{"type":"array","items":"int"},{"type":"map","values":"int"}]`)
	var tags []string
	for _, b := range append([]int{0}, s.Types[0].Branches...) {
		tags = append(tags, Tag(s, b))
	}
	if got := strings.Join(tags, " "); got != "union null boolean int long float double bytes string a.R E F array map" {
		t.Error(got)
	}
	if Tag(s, -1) != "" || Tag(s, len(s.Types)) != "" || Tag(types(api.AType{Kind: 15}), 0) != "" || Tag(types(api.AType{}), 0) != "" {
		t.Error("of none")
	}
}

// R1: trees that nobody parses.
func TestOddTrees(t *testing.T) {
	text := func(s string) api.JNode { return api.JNode{Kind: api.JText, S: s} }
	for _, n := range []api.JNode{
		{}, {Kind: 99}, {Kind: api.JTable, Names: []string{"type"}},
		{Kind: api.JTable, Names: []string{"type", "name", "fields"}, L: []api.JNode{text("record"), text("R")}},
	} {
		if s, e := From(n); e != api.ErrMalformed || s.Types != nil {
			t.Errorf("%v: %d", n, e)
		}
	}
	deep := text("int")
	for range 1000 {
		deep = api.JNode{Kind: api.JTable, Names: []string{"type"}, L: []api.JNode{deep}}
	}
	if _, e := From(deep); e != api.ErrLimit {
		t.Errorf("deep: %d", e)
	}
}
