package acomp

import (
	"fmt"
	"strings"
	"testing"

	"proclitic/api"
	"proclitic/avsc"
	"proclitic/json"
)

func from(t *testing.T, s string) api.ASchema {
	n, e := json.Parse(s)
	if e != api.OK {
		t.Fatalf("%s: %d", s, e)
	}
	a, e := avsc.From(n)
	if e != api.OK {
		t.Fatalf("%s: %d", s, e)
	}
	return a
}

// record writes a record of fields that are written as "name type more".
func record(name string, fields ...string) string {
	var l []string
	for _, x := range fields {
		p := strings.SplitN(x, " ", 3)
		s := fmt.Sprintf(`{"name":"%s","type":%s`, p[0], p[1])
		if len(p) > 2 {
			s += "," + p[2]
		}
		l = append(l, s+"}")
	}
	return `{"type":"record",` + name + `,"fields":[` + strings.Join(l, ",") + `]}`
}

func array(s string) string { return `{"type":"array","items":` + s + `}` }
func maps(s string) string  { return `{"type":"map","values":` + s + `}` }
func enum(more, syms string) string {
	return `{"type":"enum",` + more + `,"symbols":["` + strings.ReplaceAll(syms, " ", `","`) + `"]}`
}

const r, s = `"name":"R"`, `"name":"S"`

// P23.1
func TestMatch(t *testing.T) {
	plain := []string{"null", "boolean", "int", "long", "float", "double", "bytes", "string"}
	goes := "int-long int-float int-double long-float long-double float-double string-bytes"
	for _, a := range plain {
		for _, b := range plain {
			want := a == b || strings.Contains(" "+goes+" ", " "+a+"-"+b+" ")
			w, x := from(t, `"`+a+`"`), from(t, `"`+b+`"`)
			if Match(w, x, 0, 0) != want || Check(w, x, 0, 0) != want {
				t.Errorf("%s as %s: not %v", a, b, want)
			}
		}
	}
	fixed := func(more string) string { return `{"type":"fixed",` + more + `}` }
	for _, x := range []struct {
		w, r string
		want bool
	}{
		{array(`"int"`), array(`"string"`), true},
		{maps(`"int"`), maps(`"string"`), true},
		{array(`"int"`), maps(`"int"`), false},
		{`["int"]`, `["int"]`, false},
		{`"int"`, `["int"]`, false},
		{`["int"]`, `"int"`, false},
		{record(r, `a "int"`), record(r), true},
		{record(r), record(s), false},
		{record(r), record(`"name":"x.y.R"`), true},
		{record(`"name":"x.R"`), record(`"name":"y.R"`), true},
		{record(r), record(`"name":"S","aliases":["T","a.R"]`), true},
		{record(`"name":"S","aliases":["R"]`), record(r), false},
		{enum(r, "A"), enum(`"name":"b.R"`, "B"), true},
		{enum(r, "A"), enum(s, "A"), false},
		{enum(r, "A"), record(r), false},
		{fixed(`"name":"F","size":1`), fixed(`"name":"F","size":1`), true},
		{fixed(`"name":"F","size":1`), fixed(`"name":"F","size":2`), false},
		{fixed(`"name":"F","size":1`), fixed(`"name":"G","size":1`), false},
		{fixed(`"name":"F","size":1`), fixed(`"name":"G","size":1,"aliases":["F"]`), true},
		{fixed(`"name":"F","size":1`), `"bytes"`, false},
	} {
		if Match(from(t, x.w), from(t, x.r), 0, 0) != x.want {
			t.Errorf("%s as %s: not %v", x.w, x.r, x.want)
		}
	}
}

// P23.1
func TestCheck(t *testing.T) {
	never := record(`"name":"N"`, `n "N"`)
	for i, x := range []struct {
		w, r string
		want bool
	}{
		// no value
		{never, `"int"`, true},
		{array(never), array(`"int"`), true},
		{maps(never), maps(`"int"`), true},
		{array(never), maps(`"int"`), false},
		{array(never), `"int"`, false},
		{record(r, `a `+never), `"int"`, true},
		{array(`"int"`), array(`"string"`), false},
		{maps(`"int"`), maps(`"long"`), true},
		{maps(`"int"`), maps(`"string"`), false},
		// unions
		{`["int","string"]`, `["string","long"]`, true},
		{`["int","string"]`, `["string"]`, false},
		{`["int","long"]`, `"double"`, true},
		{`["int","null"]`, `"double"`, false},
		{`["int",` + never + `]`, `"double"`, true},
		{`"int"`, `["null","long"]`, true},
		{`"int"`, `["null"]`, false},
		{array(`"int"`), `["int",` + array(`"long"`) + `]`, true},
		{array(`"int"`), `["int",` + array(`"string"`) + `]`, false},
		{record(r, `a "int"`), `[` + record(`"name":"a.R"`, `a "string"`) + `,` + record(`"name":"b.R"`, `a "int"`) + `]`, false},
		{record(r, `a "int"`), `[` + record(`"name":"b.R"`, `a "int"`) + `,` + record(`"name":"a.R"`, `a "string"`) + `]`, true},
		// enums
		{enum(r, "A B"), enum(r, "B C A"), true},
		{enum(r, "A B"), enum(r, "A"), false},
		{enum(r, "A B"), enum(r+`,"default":"C"`, "C"), true},
		// records
		{record(r, `a "int"`, `b "string"`), record(r, `b "bytes"`), true},
		{record(r, `a "int"`), record(r, `a "int"`, `b "int"`), false},
		{record(r, `a "int"`), record(r, `a "int"`, `b "int" "default":1`), true},
		{record(r, `a "string"`), record(r, `a "int" "default":1`), false},
		{record(r, `a "int"`), record(r, `b "long" "aliases":["x","a"]`), true},
		{record(r, `a "int"`, `x "string"`), record(r, `b "long" "aliases":["x","a"]`), false},
		{record(r, `a "int"`, `b "string"`), record(r, `b "string" "aliases":["a"]`), true},
		{record(r), record(r, `b "string" "aliases":["a"],"default":""`), true},
		{record(r, `a `+never), record(r, `b "int"`), true},
		{record(r, `a ["null",`+record(`"name":"N"`, `n "N"`)+`]`), record(r, `a "null"`), true},
		// that lead back to themselves
		{record(r, `a ["null","R"]`), record(r, `a ["null","R"]`), true},
		{record(r, `a ["null","R"]`, `b "int"`), record(r, `a ["null","R"]`, `b "string"`), false},
		{record(r, `a ["null","R"]`), record(r, `a ["null",`+record(`"name":"x.R"`, `a ["null","R"]`)+`]`), true},
		{record(r, `a `+array(`"R"`)), record(r, `a `+array(record(`"name":"x.R"`, `a `+array(`"R"`), `b "int"`))), false},
	} {
		w, rd := from(t, x.w), from(t, x.r)
		if Check(w, rd, 0, 0) != x.want {
			t.Errorf("%d: %s as %s: not %v", i, x.w, x.r, x.want)
		}
		// Of two branches of one short name the first one alone is ever read.
		alike := strings.Contains(x.r, "b.R") && strings.Contains(x.r, "a.R")
		if !alike && (!Check(w, w, 0, 0) || !Check(rd, rd, 0, 0)) {
			t.Errorf("%d: a schema does not read itself", i)
		}
		if k := len(w.Types); Check(w, rd, k, 0) || Match(w, rd, k, 0) {
			t.Errorf("%d: of one type too many", i)
		}
		if k := len(rd.Types); Check(w, rd, 0, k) || Match(w, rd, 0, k) {
			t.Errorf("%d: of one type too many", i)
		}
		for _, k := range []int{-1, 99} {
			if Check(w, rd, k, 0) || Check(w, rd, 0, k) || Match(w, rd, k, 0) || Match(w, rd, 0, k) {
				t.Errorf("%d: of no type", i)
			}
		}
	}
}

// R1: schemas that may not be.
func TestOddSchemas(t *testing.T) {
	l := []api.AType{{}, {Kind: 99}, {Kind: api.AArray, Items: 3}, {Kind: api.AUnion, Branches: []int{3, -1, 99, 0}}, {Kind: api.ARecord, Fields: []api.AField{{Type: 99}, {Type: 4}}}, {Kind: api.AArray, Items: 5}, {Kind: api.AArray, Items: -1}}
	s := api.ASchema{Types: l}
	for i := range l {
		for k := range l {
			Check(s, s, i, k)
			Match(s, s, i, k)
		}
	}
}
