package ares

import (
	"fmt"
	"strings"
	"testing"

	"proclitic/api"
	"proclitic/aval"
	"proclitic/avsc"
	"proclitic/json"
)

func from(t *testing.T, s string) api.ASchema {
	n, e := json.Parse(s)
	if e != api.OK {
		t.Fatalf("%s: %d", s, e)
	}
	a, e := avsc.From(n)
	if e != api.OK {
		t.Fatalf("%s: %d", s, e)
	}
	return a
}

// record writes a record R of fields that are written as "name type more".
func record(fields ...string) string {
	var l []string
	for _, x := range fields {
		p := strings.SplitN(x, " ", 3)
		s := fmt.Sprintf(`{"name":"%s","type":%s`, p[0], p[1])
		if len(p) > 2 {
			s += "," + p[2]
		}
		l = append(l, s+"}")
	}
	return `{"type":"record","name":"R","fields":[` + strings.Join(l, ",") + `]}`
}

func array(s string) string { return `{"type":"array","items":` + s + `}` }
func maps(s string) string  { return `{"type":"map","values":` + s + `}` }
func enum(more, syms string) string {
	return `{"type":"enum","name":"E"` + more + `,"symbols":["` + strings.ReplaceAll(syms, " ", `","`) + `"]}`
}
func n(v int64) api.AVal            { return api.AVal{N: uint64(v)} }
func h(v uint64) api.AVal           { return api.AVal{N: v} }
func tx(s string) api.AVal          { return api.AVal{S: s} }
func in(l ...api.AVal) api.AVal     { return api.AVal{L: l} }
func un(b int, v api.AVal) api.AVal { return api.AVal{Branch: b, L: []api.AVal{v}} }
func mp(keys string, l ...api.AVal) api.AVal {
	return api.AVal{Keys: strings.Split(keys, " "), L: l}
}

// P24.1
func TestResolve(t *testing.T) {
	for i, x := range []struct {
		w, r    string
		v, want api.AVal
	}{
		{`"null"`, `"null"`, n(0), n(0)},
		{`"int"`, `"int"`, n(-5), n(-5)},
		{`"int"`, `"long"`, n(-5), n(-5)},
		{`"int"`, `"float"`, n(-1), h(0xbf800000)},
		{`"int"`, `"double"`, n(1), h(0x3ff0000000000000)},
		{`"int"`, `"double"`, n(-1), h(0xbff0000000000000)},
		{`"int"`, `"float"`, n(1<<24 + 1), h(0x4b800000)},
		{`"long"`, `"float"`, n(-1 << 63), h(0xdf000000)},
		{`"long"`, `"double"`, n(1<<53 + 1), h(0x4340000000000000)},
		{`"float"`, `"double"`, h(0xbf800000), h(0xbff0000000000000)},
		{`"float"`, `"double"`, h(0x7fc00001), h(0x7ff8000020000000)},
		{`"float"`, `"float"`, h(0x7fc00001), h(0x7fc00001)},
		{`"double"`, `"double"`, h(1 << 63), h(1 << 63)},
		{`"boolean"`, `"boolean"`, n(1), n(1)},
		{`"string"`, `"bytes"`, tx("é"), tx("é")},
		{`"bytes"`, `"bytes"`, tx("\xff"), tx("\xff")},
		{`{"type":"fixed","name":"a.F","size":2}`, `{"type":"fixed","name":"F","size":2}`, tx("\xff\x00"), tx("\xff\x00")},
		{enum("", "A B"), enum("", "B A"), n(1), n(0)},
		{enum("", "A B"), enum(`,"default":"D"`, "C D"), n(1), n(1)},
		{enum("", "A B"), enum(`,"default":"D"`, "D B"), n(1), n(1)},
		{enum("", "A B"), enum(`,"default":"D"`, "B D"), n(1), n(0)},
		{enum("", "A B"), enum(`,"default":"D"`, "D B"), n(0), n(0)},
		{array(`"int"`), array(`"long"`), in(n(1), n(-1)), in(n(1), n(-1))},
		{array(`"int"`), array(`"double"`), api.AVal{}, api.AVal{}},
		{maps(`"int"`), maps(`["null","double"]`), mp("a b", n(1), n(0)), mp("a b", un(1, h(0x3ff0000000000000)), un(1, n(0)))},
		{`["null","int"]`, `"long"`, un(1, n(7)), n(7)},
		{`["null","int"]`, `["long","null"]`, un(1, n(7)), un(0, n(7))},
		{`["null","int"]`, `["long","null"]`, un(0, n(0)), un(1, n(0))},
		{`"int"`, `["null","float","int"]`, n(1), un(1, h(0x3f800000))},
		{record(`a "int"`, `b "string"`), record(`b "bytes"`), in(n(1), tx("x")), in(tx("x"))},
		{record(`a "int"`, `b "string"`), record(`c "int" "default":5`, `b "string"`, `d "long" "aliases":["a"]`), in(n(1), tx("x")), in(n(5), tx("x"), n(1))},
		{record(`a "int"`), record(`b "int" "aliases":["a"],"default":9`), in(n(1)), in(n(1))},
		{record(`a ["null","R"]`), record(`a ["null","R"]`, `z `+array(`"int"`)+` "default":[3]`), in(un(1, in(un(0, n(0))))), in(un(1, in(un(0, n(0)), in(n(3)))), in(n(3)))},
	} {
		w, r := from(t, x.w), from(t, x.r)
		got, e := Resolve(w, r, 0, 0, x.v)
		if e != api.OK || !aval.Same(got, x.want) || !aval.Fits(r, 0, got) {
			t.Errorf("%d: %s as %s: %v: %v %d", i, x.w, x.r, x.v, got, e)
		}
	}
}

// P24.1
func TestResolveErrors(t *testing.T) {
	for i, x := range []struct {
		w, r string
		v    api.AVal
		e    api.Errno
	}{
		{`"int"`, `"int"`, n(1 << 31), api.ErrType},
		{`"int"`, `"string"`, tx("a"), api.ErrType},
		{`"int"`, `"string"`, n(1), api.ErrCompat},
		{`"long"`, `"int"`, n(1), api.ErrCompat},
		{`"bytes"`, `"string"`, tx("a"), api.ErrCompat},
		{`"int"`, `["null","string"]`, n(1), api.ErrCompat},
		{`["null","int"]`, `"int"`, un(0, n(0)), api.ErrCompat},
		{`["null","int"]`, `["int","string"]`, un(0, n(0)), api.ErrCompat},
		{enum("", "A B"), enum("", "A"), n(1), api.ErrCompat},
		{array(`"int"`), array(`"string"`), in(n(1)), api.ErrCompat},
		{array(`"int"`), array(`"string"`), api.AVal{}, api.OK},
		{array(`["int","null"]`), array(`"int"`), in(un(0, n(1)), un(1, n(0))), api.ErrCompat},
		{maps(`"int"`), maps(`"string"`), mp("a", n(1)), api.ErrCompat},
		{maps(`"int"`), array(`"int"`), api.AVal{}, api.ErrCompat},
		{record(`a "int"`), record(`b "int"`), in(n(1)), api.ErrCompat},
		{record(`a "int"`), record(`a "string" "default":""`), in(n(1)), api.ErrCompat},
		{record(`a "int"`), record(`a ["null","R"] "default":null`), in(n(1)), api.ErrCompat},
		{record(`a "int"`), record(`b "int" "default":"x"`), in(n(1)), api.ErrType},
		{record(`a "int"`), record(`b "R" "default":{}`), in(n(1)), api.ErrLimit},
		{record(`a "int"`), record(`b "int" "default":"x"`, `a "string"`), in(n(1)), api.ErrType},
		{record(`a "int"`), record(`a "string"`, `b "int" "default":"x"`), in(n(1)), api.ErrCompat},
		{record(`a "int"`), `[` + record(`a "string"`) + `]`, in(n(1)), api.ErrCompat},
	} {
		got, e := Resolve(from(t, x.w), from(t, x.r), 0, 0, x.v)
		if e != x.e || !aval.Same(got, api.AVal{}) {
			t.Errorf("%d: %s as %s: %v %d", i, x.w, x.r, got, e)
		}
	}
	s := from(t, `"int"`)
	for _, k := range []int{-1, 1} {
		if _, e := Resolve(s, s, k, 0, tx("a")); e != api.ErrArg {
			t.Errorf("of no type: %d", e)
		}
		if _, e := Resolve(s, s, 0, k, tx("a")); e != api.ErrArg {
			t.Errorf("of no type: %d", e)
		}
	}
}

// R3
func TestKeysAreNew(t *testing.T) {
	s := from(t, maps(`"int"`))
	v := mp("a b", n(1), n(2))
	got, _ := Resolve(s, s, 0, 0, v)
	got.Keys[0], got.L[0].N = "x", 9
	if v.Keys[0] != "a" || v.L[0].N != 1 {
		t.Error("what is told is the argument's memory")
	}
}
