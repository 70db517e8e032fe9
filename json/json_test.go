package json

import (
	stdjson "encoding/json"
	"math/rand"
	"strings"
	"testing"

	"proclitic/api"
)

func in(n int64) api.JNode          { return api.JNode{Kind: api.JInt, N: n} }
func text(s string) api.JNode       { return api.JNode{Kind: api.JText, S: s} }
func list(l ...api.JNode) api.JNode { return api.JNode{Kind: api.JList, L: l} }
func table(names string, l ...api.JNode) api.JNode {
	return api.JNode{Kind: api.JTable, Names: strings.Fields(names), L: l}
}

var (
	null = api.JNode{Kind: api.JNull}
	no   = api.JNode{Kind: api.JBool}
	yes  = api.JNode{Kind: api.JBool, N: 1}
)

// P6.1
func TestParse(t *testing.T) {
	for s, want := range map[string]api.JNode{
		"null":                              null,
		" true\t\r\n":                       yes,
		"false":                             no,
		"0":                                 in(0),
		"-0":                                in(0),
		"-17":                               in(-17),
		"9223372036854775807":               in(1<<63 - 1),
		"-9223372036854775808":              in(-1 << 63),
		`"a\u0041\n"`:                       text("aA\n"),
		"[]":                                list(),
		"[ ]":                               list(),
		"[1,[2] , \"x\"]":                   list(in(1), list(in(2)), text("x")),
		"{}":                                table(""),
		"{ \"b\" : 1 , \"a\":{\"b\":null}}": table("b a", in(1), table("b", null)),
	} {
		n, e := Parse(s)
		if e != api.OK || !Same(n, want) || !May(n) {
			t.Errorf("%s: %v %d", s, n, e)
		}
	}
}

// P6.1
func TestParseErrors(t *testing.T) {
	deep := func(n int) string { return strings.Repeat("[", n) + strings.Repeat("]", n) }
	tables := func(n int) string { return strings.Repeat(`{"a":`, n) + "1" + strings.Repeat("}", n) }
	for _, x := range []struct {
		s string
		e api.Errno
	}{
		{"", api.ErrMalformed},
		{" ", api.ErrMalformed},
		{"nul", api.ErrMalformed},
		{"nullx", api.ErrMalformed},
		{"True", api.ErrMalformed},
		{"1 2", api.ErrMalformed},
		{"1\x00", api.ErrMalformed},
		{"\x001", api.ErrMalformed},
		{"\v1", api.ErrMalformed},
		{"+1", api.ErrMalformed},
		{"-", api.ErrMalformed},
		{"- 1", api.ErrMalformed},
		{"--1", api.ErrMalformed},
		{"00", api.ErrMalformed},
		{"01", api.ErrMalformed},
		{"-01", api.ErrMalformed},
		{"1.0", api.ErrMalformed},
		{"1e2", api.ErrMalformed},
		{"1_0", api.ErrMalformed},
		{"0x1", api.ErrMalformed},
		{"9223372036854775808", api.ErrMalformed},
		{"-9223372036854775809", api.ErrMalformed},
		{"\"\xff\"", api.ErrMalformed},
		{`"a`, api.ErrMalformed},
		{"'a'", api.ErrMalformed},
		{"[", api.ErrMalformed},
		{"[1", api.ErrMalformed},
		{"[1,]", api.ErrMalformed},
		{"[,1]", api.ErrMalformed},
		{"[1 2]", api.ErrMalformed},
		{"[1}", api.ErrMalformed},
		{"{", api.ErrMalformed},
		{`{"a"}`, api.ErrMalformed},
		{`{:1}`, api.ErrMalformed},
		{`{"a" 1}`, api.ErrMalformed},
		{`{"a":1 "b":2}`, api.ErrMalformed},
		{`{"a":}`, api.ErrMalformed},
		{`{"a":1,}`, api.ErrMalformed},
		{`{a:1}`, api.ErrMalformed},
		{`{1:1}`, api.ErrMalformed},
		{`{"a":1]`, api.ErrMalformed},
		{`{"a":1,"a"`, api.ErrTwice},
		{`{"a":1,"\u0061":2}`, api.ErrTwice},
		{`{"a":1,"b":{"a":1,"a":2,}}`, api.ErrTwice},
		{`{"a":1,,"a":1}`, api.ErrMalformed},
		{`{"a":{"a":[{"a":1}]}}`, api.OK},
		{deep(api.MaxDepth), api.OK},
		{deep(api.MaxDepth + 1), api.ErrLimit},
		{strings.Repeat("[", 21), api.ErrLimit},
		{strings.Repeat("[", 20), api.ErrMalformed},
		{tables(api.MaxDepth), api.OK},
		{tables(api.MaxDepth + 1), api.ErrLimit},
		{"[x" + deep(30), api.ErrMalformed},
		{"1" + strings.Repeat(" ", 2*api.MaxBytes-1), api.OK},
		{"x" + strings.Repeat(" ", 2*api.MaxBytes), api.ErrLimit},
	} {
		n, e := Parse(x.s)
		if e != x.e {
			t.Errorf("%.40s: %d, not %d", x.s, e, x.e)
		}
		if e != api.OK && (n.Kind != 0 || n.L != nil || n.Names != nil || n.N != 0 || n.S != "") {
			t.Errorf("%.40s: %v beside an error", x.s, n)
		}
	}
}

// P6.2
func TestPrint(t *testing.T) {
	for want, n := range map[string]api.JNode{
		"null":                          null,
		"true":                          yes,
		"false":                         no,
		"-9223372036854775808":          in(-1 << 63),
		`"\"\u0001é"`:                   text("\"\x01é"),
		"[]":                            list(),
		"[1,[null,\"\"]]":               list(in(1), list(api.JNode{Kind: 77}, text(""))),
		"{}":                            table(""),
		`{"b":1,"a":{"a":[]},"\\":"x"}`: table("b a \\", in(1), table("a", list()), text("x")),
		"[null]":                        list(api.JNode{}),
		"[[[[[[[[[[[[[[[[[[[[[[]]]]]]]]]]]]]]]]]]]]]]": deepList(22),
	} {
		if s := Print(n); s != want {
			t.Errorf("%s, not %s", s, want)
		}
	}
}

func deepList(n int) api.JNode {
	if n == 1 {
		return list()
	}
	return list(deepList(n - 1))
}

// P6.2
func TestSame(t *testing.T) {
	l := []api.JNode{{}, null, yes, no, in(0), in(1), text(""), text("a"), list(), list(null), list(null, null), table(""), table("a", null), table("b", null), table("a b", null, yes), table("b a", yes, null), list(table("a", in(1))), list(table("a", in(2)))}
	for i, a := range l {
		for k, b := range l {
			if Same(a, b) != (i == k) {
				t.Errorf("%v, %v: %v", a, b, Same(a, b))
			}
		}
	}
	a := api.JNode{Kind: api.JInt, N: 1, S: "x", L: []api.JNode{null}}
	if !Same(a, in(1)) || Same(a, in(2)) {
		t.Error("what does not count counts")
	}
	if !Same(api.JNode{Kind: api.JList, L: []api.JNode{}, N: 3}, list()) {
		t.Error("an empty list and nil")
	}
	if Same(api.JNode{Kind: api.JTable, L: []api.JNode{null}}, table("")) {
		t.Error("parts without names")
	}
}

// P6.2
func TestGet(t *testing.T) {
	n := api.JNode{Kind: api.JTable, Names: []string{"a", "b", "b", "c"}, L: []api.JNode{in(1), list(in(2)), in(3)}}
	if v, ok := Get(n, "b"); !ok || !Same(v, list(in(2))) {
		t.Errorf("%v %v", v, ok)
	} else {
		v.L[0].N = 9
		if n.L[1].L[0].N != 2 {
			t.Error("what is told is the argument's memory")
		}
	}
	if v, ok := Get(n, "a"); !ok || v.N != 1 {
		t.Errorf("the first: %v %v", v, ok)
	}
	inner := table("t", table("u", null))
	v, _ := Get(inner, "t")
	v.Names[0] = "x"
	if inner.L[0].Names[0] != "u" {
		t.Error("names that are told are the argument's memory")
	}
	for _, name := range []string{"", "c", "x"} {
		if v, ok := Get(n, name); ok || !Same(v, api.JNode{}) {
			t.Errorf("%s: %v", name, v)
		}
	}
	n.Kind = api.JList
	if v, ok := Get(n, "a"); ok || v.Kind != 0 {
		t.Errorf("of a list: %v", v)
	}
}

// P6.2
func TestMay(t *testing.T) {
	for _, n := range []api.JNode{null, yes, no, in(-5), text("é"), list(null), table("a b", no, null), deepList(20), table("é", list())} {
		if !May(n) {
			t.Errorf("%v", n)
		}
	}
	for _, n := range []api.JNode{{}, {Kind: 7}, {Kind: -1}, {Kind: api.JBool, N: 2}, {Kind: api.JBool, N: -1}, text("\xff"), list(api.JNode{}), table("a"), table("", null), table("a a", null, null), table("a \xff", null, null), table("a", text("\xc3")), deepList(21)} {
		if May(n) {
			t.Errorf("%v", n)
		}
	}
}

// P6.2: what is printed is parsed as it was.
func TestToAndFro(t *testing.T) {
	r := rand.New(rand.NewSource(1))
	for range 3000 {
		n := random(r, 0)
		s := Print(n)
		if !stdjson.Valid([]byte(s)) {
			t.Fatalf("%s", s)
		}
		back, e := Parse(s)
		if !May(n) || e != api.OK || !Same(back, n) {
			t.Fatalf("%s: %d", s, e)
		}
	}
}

func random(r *rand.Rand, depth int) api.JNode {
	switch k := r.Intn(6); {
	case k == 0:
		return null
	case k == 1:
		return api.JNode{Kind: api.JBool, N: int64(r.Intn(2))}
	case k == 2:
		return in(int64(r.Uint64()) >> r.Intn(64))
	case k == 3 || depth > 5:
		return text([]string{"", "a", "\"\\\x00", "é😀"}[r.Intn(4)])
	case k == 4:
		n := list()
		for range r.Intn(4) {
			n.L = append(n.L, random(r, depth+1))
		}
		return n
	}
	n := table("")
	for _, name := range []string{"", "a", "\n", "é"} {
		if r.Intn(2) == 0 {
			n.Names = append(n.Names, name)
			n.L = append(n.L, random(r, depth+1))
		}
	}
	return n
}

func FuzzParse(f *testing.F) {
	f.Add(`{"a":[1,null,"\u0041"]}`)
	f.Fuzz(func(t *testing.T, s string) {
		n, e := Parse(s)
		if e == api.OK && (!May(n) || !stdjson.Valid([]byte(s))) {
			t.Errorf("%q: %v", s, n)
		}
	})
}
