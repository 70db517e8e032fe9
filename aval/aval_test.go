package aval

import (
	"testing"

	"proclitic/api"
	"proclitic/avsc"
	"proclitic/json"
)

func from(t *testing.T, s string) api.ASchema {
	n, e := json.Parse(s)
	if e != api.OK {
		t.Fatalf("%s: %d", s, e)
	}
	a, e := avsc.From(n)
	if e != api.OK {
		t.Fatalf("%s: %d", s, e)
	}
	return a
}

func n(v int64) api.AVal            { return api.AVal{N: uint64(v)} }
func tx(s string) api.AVal          { return api.AVal{S: s} }
func in(l ...api.AVal) api.AVal     { return api.AVal{L: l} }
func un(b int, v api.AVal) api.AVal { return api.AVal{Branch: b, L: []api.AVal{v}} }
func mp(keys []string, l ...api.AVal) api.AVal {
	return api.AVal{Keys: keys, L: l}
}

// P20.1
func TestFits(t *testing.T) {
	const record = `{"type":"record","name":"R","fields":[{"name":"a","type":"int"},{"name":"b","type":["null","R"]}]}`
	const array, maps = `{"type":"array","items":"boolean"}`, `{"type":"map","values":"int"}`
	const enum, fixed = `{"type":"enum","name":"E","symbols":["A","B"]}`, `{"type":"fixed","name":"F","size":2}`
	for _, x := range []struct {
		s       string
		yes, no []api.AVal
	}{
		{`"null"`, []api.AVal{{}}, []api.AVal{n(1), tx("a"), un(1, n(0)), in(n(0)), {Branch: 1}, {Keys: []string{""}}}},
		{`"boolean"`, []api.AVal{n(0), n(1)}, []api.AVal{n(2), n(-1), {N: 1, S: "a"}, {N: 1, Branch: 1}}},
		{`"int"`, []api.AVal{n(0), n(1<<31 - 1), n(-1 << 31)}, []api.AVal{n(1 << 31), n(-1<<31 - 1), n(1<<32 - 1), {L: []api.AVal{{}}}}},
		{`"long"`, []api.AVal{n(-1 << 63), n(1<<63 - 1)}, []api.AVal{tx("1"), {Keys: []string{"a"}}}},
		{`"float"`, []api.AVal{n(0), n(1<<32 - 1)}, []api.AVal{n(1 << 32), n(-1)}},
		{`"double"`, []api.AVal{n(-1)}, []api.AVal{{S: "a"}}},
		{`"bytes"`, []api.AVal{{}, tx("\xff")}, []api.AVal{{N: 1, S: "a"}, {S: "a", Branch: 1}}},
		{`"string"`, []api.AVal{{}, tx("é")}, []api.AVal{tx("\xff"), n(1), {S: "a", L: []api.AVal{{}}}}},
		{fixed, []api.AVal{tx("\xff\x00")}, []api.AVal{{}, tx("a"), tx("abc"), {S: "ab", N: 1}}},
		{enum, []api.AVal{n(0), n(1)}, []api.AVal{n(2), n(-1), tx("A"), {N: 1, Keys: []string{"a"}}}},
		{array, []api.AVal{{}, in(n(1), n(0))}, []api.AVal{in(n(2)), {N: 1}, {Branch: 1}, {Keys: []string{"a"}, L: []api.AVal{{}}}, {S: "a"}}},
		{maps, []api.AVal{{}, mp([]string{"", "a", "é"}, n(1), n(2), n(3))}, []api.AVal{in(n(1)), mp([]string{"a"}), mp([]string{"b", "a"}, n(1), n(1)), mp([]string{"a", "a"}, n(1), n(1)), mp([]string{"\xff"}, n(1)), mp([]string{"a"}, tx("a")), {Branch: 1}, {N: 1}, {S: "x"}}},
		{record, []api.AVal{in(n(1), un(0, n(0))), in(n(1), un(1, in(n(2), un(0, n(0)))))}, []api.AVal{{}, in(n(1)), in(n(1), un(0, n(0)), n(0)), in(tx("a"), un(0, n(0))), in(n(1), n(0)), {N: 1, L: []api.AVal{n(1), un(0, n(0))}}, {Branch: 1, L: []api.AVal{n(1), un(0, n(0))}}, {Keys: []string{"a", "b"}, L: []api.AVal{n(1), un(0, n(0))}}}},
		{`["null","int"]`, []api.AVal{un(0, n(0)), un(1, n(7))}, []api.AVal{{}, un(2, n(0)), un(-1, n(0)), un(0, n(7)), {Branch: 1}, {Branch: 1, L: []api.AVal{{}, {}}}, {Branch: 1, L: []api.AVal{{}}, N: 1}, {Branch: 1, L: []api.AVal{{}}, Keys: []string{"a"}}}},
	} {
		s := from(t, x.s)
		for _, v := range x.yes {
			if !Fits(s, 0, v) {
				t.Errorf("%s: %v does not fit", x.s, v)
			}
		}
		for _, v := range x.no {
			if Fits(s, 0, v) {
				t.Errorf("%s: %v fits", x.s, v)
			}
		}
		if Fits(s, -1, api.AVal{}) || Fits(s, len(s.Types), api.AVal{}) {
			t.Errorf("%s: of no type", x.s)
		}
	}
	for _, s := range []api.ASchema{{Types: []api.AType{{}}}, {Types: []api.AType{{Kind: 15}}}, {Types: []api.AType{{Kind: api.AArray, Items: -1}}}} {
		if Fits(s, 0, in(n(0))) {
			t.Errorf("%v", s)
		}
	}
}

// P20.1
func TestSame(t *testing.T) {
	l := []api.AVal{{}, n(1), tx("a"), in(n(0)), in(n(0), n(0)), in(n(1)), in(in(n(0))), un(1, n(0)), mp([]string{"a"}, n(0)), mp([]string{"b"}, n(0)), mp([]string{"a"}, n(1)), {Keys: []string{"a"}}}
	for i, a := range l {
		for k, b := range l {
			if Same(a, b) != (i == k) {
				t.Errorf("%v, %v", a, b)
			}
		}
	}
	if !Same(api.AVal{L: []api.AVal{}, Keys: []string{}}, api.AVal{}) {
		t.Error("nil and an empty list are one")
	}
}

// P20.1
func TestSize(t *testing.T) {
	for _, x := range []struct {
		v            api.AVal
		depth, count int
	}{
		{api.AVal{}, 0, 1},
		{n(5), 0, 1},
		{un(0, n(0)), 1, 2},
		{in(n(0), in(n(0)), n(0)), 2, 5},
		{mp([]string{"a", "b"}, n(0), in(in(in(n(0))))), 4, 6},
		{api.AVal{Keys: []string{"a"}}, 1, 1},
		{api.AVal{Branch: 3}, 0, 1},
	} {
		if depth, count := Size(x.v); depth != x.depth || count != x.count {
			t.Errorf("%v: %d %d", x.v, depth, count)
		}
	}
}
