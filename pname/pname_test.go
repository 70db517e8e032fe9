package pname

import (
	"reflect"
	"strings"
	"testing"

	"proclitic/api"
)

const head = `syntax = "proto3"; `

// sources writes each "name:text" as a source, with the head that all of them have.
func sources(l ...string) []api.Source {
	var out []api.Source
	for _, x := range l {
		name, text, _ := strings.Cut(x, ":")
		out = append(out, api.Source{Name: name, Text: head + text})
	}
	return out
}

// P9.1
func TestLoad(t *testing.T) {
	for _, x := range []struct {
		l    []api.Source
		want string // names and what they see
	}{
		{sources("a:"), "a(a)"},
		{sources("a:import 'b'; import 'c';", "c:", "b:import 'c';"), "c(c) b(c b) a(b c a)"},
		{sources("a:import 'b'; import 'c';", "b:import 'd';", "c:import 'd';", "d:", "lost:?"), "d(d) b(d b) c(d c) a(b c a)"},
		{sources("a:import 'c'; import 'b'; import 'c'; import 'b';", "b:", "c:"), "c(c) b(b) a(c b a)"},
		{sources(":import 'b';", "b:"), "b(b) (b )"},
	} {
		files, e, file, at := Load(x.l)
		var got []string
		for _, f := range files {
			got = append(got, f.Name+"("+strings.Join(f.Sees, " ")+")")
		}
		if strings.Join(got, " ") != x.want || e != api.OK || file != "" || at != 0 {
			t.Errorf("%v: %v %d %s %d", x.l, got, e, file, at)
		}
	}
	files, _, _, _ := Load(sources("a:package p; message M {}"))
	want := api.FFile{Package: "p", Messages: []api.FMessage{{Name: "M"}}}
	if len(files) != 1 || !reflect.DeepEqual(files[0].F, want) {
		t.Errorf("%v", files)
	}
}

// P9.1
func TestLoadErrors(t *testing.T) {
	for _, x := range []struct {
		l    []api.Source
		e    api.Errno
		file string
		at   int
	}{
		{nil, api.ErrNone, "", 0},
		{sources("a:?", "b:", "b:", "a:"), api.ErrTwice, "b", 0},
		{sources("a:import 'x';", "a:"), api.ErrTwice, "a", 0},
		{sources("a:?"), api.ErrMalformed, "a", len(head)},
		{sources("a:import 'b'; import 'x';", "b: ?"), api.ErrMalformed, "b", len(head) + 1},
		{sources("a:import 'b';", "b:import 'c';", "c:package p; package q;"), api.ErrTwice, "c", len(head) + 11},
		{sources("a:import 'b'; ?", "b:?"), api.ErrMalformed, "a", len(head) + 12},
		{sources("a:import 'x';"), api.ErrNone, "a", 0},
		{sources("a:import 'b';", "b:import 'x';"), api.ErrNone, "b", 0},
		{sources("a:import 'a';"), api.ErrRule, "a", 0},
		{sources("a:import 'b';", "b:import 'c';", "c:import 'a';"), api.ErrRule, "c", 0},
		{sources("a:import 'b'; import 'x';", "b:import 'b';"), api.ErrRule, "b", 0},
	} {
		files, e, file, at := Load(x.l)
		if files != nil || e != x.e || file != x.file || at != x.at {
			t.Errorf("%v: %v %d %s %d", x.l, files, e, file, at)
		}
	}
}

// P9.2
func TestWhole(t *testing.T) {
	for _, x := range []struct {
		pack  string
		outer []string
		name  string
		want  string
	}{
		{"", nil, "", ""},
		{"", nil, "M", "M"},
		{"a.b", nil, "M", "a.b.M"},
		{"a", []string{"", "M", "", "N"}, "E", "a.M.N.E"},
		{"", []string{"M"}, "N", "M.N"},
		{"a", nil, "", "a"},
	} {
		if s := Whole(x.pack, x.outer, x.name); s != x.want {
			t.Errorf("%v: %s", x, s)
		}
	}
}

// P9.2
func TestFind(t *testing.T) {
	files, e, _, _ := Load(sources(
		"root:package a.b; import 'near'; message M { message N { message O {} } enum E {} } enum N {} message a {}",
		"near:package a; import 'far'; message M {} message P { enum N {} }",
		"far:message Q {} message P {}"))
	if e != api.OK {
		t.Fatal(e)
	}
	for _, x := range []struct {
		file, scope, ref, whole string
		kind                    int
	}{
		{"root", "a.b.M.N", "O", "a.b.M.N.O", api.KMessage},
		{"root", "a.b.M.N", "N", "a.b.M.N", api.KMessage},
		{"root", "a.b.M", "N", "a.b.M.N", api.KMessage},
		{"root", "a.b", "N", "a.b.N", api.KEnum},
		{"root", "a.b", "M", "a.b.M", api.KMessage},
		{"root", "a", "M", "a.M", api.KMessage},
		{"root", "a.b.M.N", "E", "a.b.M.E", api.KEnum},
		{"root", "a.b.M", "M.N", "a.b.M.N", api.KMessage},
		{"root", "a.b.M", "P.N", "a.P.N", api.KEnum},
		{"root", "a.b.M", "b.M.E", "a.b.M.E", api.KEnum},
		{"root", "a.b.M", "a.M", "a.M", api.KMessage},
		{"root", "a.b.M", "a", "a.b.a", api.KMessage},
		{"root", "a.b.M", ".a.M", "a.M", api.KMessage},
		{"root", "a.b.M", ".M", "", 0},
		{"root", "a.b.M", "Q", "", 0},
		{"root", "a.b.M", ".Q", "", 0},
		{"near", "a.P", "Q", "Q", api.KMessage},
		{"near", "a", "P", "a.P", api.KMessage},
		{"near", "a.P", ".P", "P", api.KMessage},
		{"near", "", "P", "P", api.KMessage},
		{"near", "a.b", "N", "", 0},
		{"far", "", "M", "", 0},
		{"far", "", "Q", "Q", api.KMessage},
		{"none", "a", "M", "", 0},
		{"root", "a.b.M", "", "", 0},
		{"root", "a.b.M", ".", "", 0},
		{"root", "a.b.M", "..a", "", 0},
		{"root", "x.y", "a.M", "a.M", api.KMessage},
	} {
		whole, kind, e := Find(files, x.file, x.scope, x.ref)
		if whole != x.whole || kind != x.kind || (e == api.OK) != (x.kind != 0) || e != api.OK && e != api.ErrName {
			t.Errorf("%s in %s of %s: %s %d %d", x.ref, x.scope, x.file, whole, kind, e)
		}
	}
}
