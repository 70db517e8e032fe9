package prule

import (
	"fmt"
	"reflect"
	"strings"
	"testing"

	"proclitic/api"
	"proclitic/pname"
)

// schema tells the schema of files that are written as "name:text", the first one the root.
func schema(t *testing.T, l ...string) (api.PSchema, api.Errno, string) {
	var sources []api.Source
	for _, x := range l {
		name, text, _ := strings.Cut(x, ":")
		sources = append(sources, api.Source{Name: name, Text: `syntax = "proto3"; ` + text})
	}
	files, e, file, at := pname.Load(sources)
	if e != api.OK {
		t.Fatalf("%v: %d %s %d", l, e, file, at)
	}
	return Schema(files)
}

// P10.1, P10.2
func TestSchema(t *testing.T) {
	s, e, whole := schema(t,
		`root:package p; import "far"; message Z { int32 z = 9; optional Z.E o = 2; repeated float r = 3; repeated float u = 4 [packed=false]; repeated E q = 5 [packed=true];
		  repeated string t = 6; map<bool, In> m = 7; oneof x { string a = 1; In b = 8; } repeated In l = 10; oneof y { int32 c = 18999; } a.N far = 20000; bytes by = 536870911;
		  enum E { ZERO = 0; NEG = -1; ONE = 1; } message In {} } enum A { X = 0; }`,
		`far:package a; message N {}`)
	if e != api.OK || whole != "" {
		t.Fatalf("%d %s", e, whole)
	}
	want := api.PSchema{
		Messages: []api.PMessage{
			{Name: "a.N"},
			{Name: "p.Z", Oneofs: []string{"x", "y"}, Fields: []api.PField{
				{Num: 1, Name: "a", Kind: api.KString, Oneof: 1},
				{Num: 2, Name: "o", Label: api.Optional, Kind: api.KEnum, Type: "p.Z.E"},
				{Num: 3, Name: "r", Label: api.Repeated, Kind: api.KFloat, Packed: true},
				{Num: 4, Name: "u", Label: api.Repeated, Kind: api.KFloat},
				{Num: 5, Name: "q", Label: api.Repeated, Kind: api.KEnum, Type: "p.Z.E", Packed: true},
				{Num: 6, Name: "t", Label: api.Repeated, Kind: api.KString},
				{Num: 7, Name: "m", Label: api.Mapped, Kind: api.KMessage, Type: "p.Z.In", Key: api.KBool},
				{Num: 8, Name: "b", Kind: api.KMessage, Type: "p.Z.In", Oneof: 1},
				{Num: 9, Name: "z", Kind: api.KInt32},
				{Num: 10, Name: "l", Label: api.Repeated, Kind: api.KMessage, Type: "p.Z.In"},
				{Num: 18999, Name: "c", Kind: api.KInt32, Oneof: 2},
				{Num: 20000, Name: "far", Kind: api.KMessage, Type: "a.N"},
				{Num: api.MaxNum, Name: "by", Kind: api.KBytes},
			}},
			{Name: "p.Z.In"},
		},
		Enums: []api.PEnum{
			{Name: "p.A", Values: []api.PValue{{Name: "X"}}},
			{Name: "p.Z.E", Values: []api.PValue{{Name: "ZERO"}, {Name: "NEG", N: -1}, {Name: "ONE", N: 1}}},
		},
	}
	if !reflect.DeepEqual(s, want) {
		t.Errorf("%+v", s)
	}
	if s, e, whole := Schema(nil); e != api.OK || whole != "" || len(s.Messages)+len(s.Enums) != 0 {
		t.Errorf("no files: %v %d %s", s, e, whole)
	}
}

// P10.1
func TestSchemaErrors(t *testing.T) {
	many := func(n int, form string) string {
		var b strings.Builder
		for i := range n {
			b.WriteString(strings.ReplaceAll(form, "#", fmt.Sprint(i)))
		}
		return b.String()
	}
	for _, x := range []struct {
		text  string
		e     api.Errno
		whole string
	}{
		{"message A {} message A {}", api.ErrTwice, "A"},
		{"enum A {} enum A {}", api.ErrTwice, "A"},
		{"enum A {A=0;} message A {}", api.ErrTwice, "A"},
		{"message A { message B {} enum B {} }", api.ErrTwice, "A.B"},
		{"message A { message A {} } message B { message A {} }", api.OK, ""},
		{"message A { message A {} enum A {} int32 x = 0; } message B {} message B {}", api.ErrTwice, "A.A"},
		{"enum E {} enum E {} message M { message N {} message N {} }", api.ErrTwice, "M.N"},
		{many(20, "message M# { message A {} message B { } }"), api.OK, ""},
		{many(20, "message M# { message A {} enum B { C=0; } }") + "enum E { A=1; }", api.ErrLimit, "E"},
		{many(20, "message M# { message A {} message B { int32 x = 0; } }") + "message E {} enum E {}", api.ErrTwice, "E"},
		{many(20, "message M# { message A {} message B { int32 x = 0; } }") + "message Last {}", api.ErrLimit, "Last"},
		{"message M { int32 a = 0; }", api.ErrRule, "M"},
		{"message M { int32 a = 536870912; }", api.ErrRule, "M"},
		{"message M { int32 a = 18446744073709551615; }", api.ErrRule, "M"},
		{"message M { int32 a = 18999; }", api.OK, ""},
		{"message M { int32 a = 19000; }", api.ErrRule, "M"},
		{"message M { int32 a = 19999; }", api.ErrRule, "M"},
		{"message M { int32 a = 20000; }", api.OK, ""},
		{"message M { int32 a = 1; reserved 1; }", api.ErrRule, "M"},
		{"message M { int32 a = 2; reserved 1 to 3; }", api.ErrRule, "M"},
		{"message M { int32 a = 3; reserved 9, 1 to 3; }", api.ErrRule, "M"},
		{"message M { int32 a = 4; reserved 1 to 3, 3 to 1, 5 to max; }", api.OK, ""},
		{"message M { int32 a = 536870911; reserved 5 to max; }", api.ErrRule, "M"},
		{"message M { reserved 'b', 'a'; int32 a = 1; }", api.ErrRule, "M"},
		{"message M { int32 a = 1; int32 b = 1; }", api.ErrTwice, "M"},
		{"message M { int32 a = 1; int32 a = 2; }", api.ErrTwice, "M"},
		{"message M { int32 o = 1; oneof o { int32 b = 2; } }", api.ErrTwice, "M"},
		{"message M { oneof o { int32 o = 2; } }", api.ErrTwice, "M"},
		{"message M { oneof o { int32 a = 1; } oneof o { int32 b = 2; } }", api.ErrTwice, "M"},
		{"message M { int32 a = 1; message N { int32 a = 1; } }", api.OK, ""},
		{"message M { X a = 1; }", api.ErrName, "M"},
		{"message M { .N a = 1; message N {} }", api.ErrName, "M"},
		{"message M { map<int32, X> a = 1; }", api.ErrName, "M"},
		{"message M { int32 a = 1 [packed=true]; }", api.ErrRule, "M"},
		{"message M { int32 a = 1 [packed=false]; }", api.ErrRule, "M"},
		{"message M { optional int32 a = 1 [packed=false]; }", api.ErrRule, "M"},
		{"message M { oneof o { int32 a = 1 [packed=false]; } }", api.ErrRule, "M"},
		{"message M { repeated string a = 1 [packed=false]; }", api.ErrRule, "M"},
		{"message M { repeated bytes a = 1 [packed=true]; }", api.ErrRule, "M"},
		{"message M { repeated M a = 1 [packed=true]; }", api.ErrRule, "M"},
		{"message M { repeated E a = 1 [packed=true]; enum E { A=0; } }", api.OK, ""},
		{"enum E {}", api.ErrRule, "E"},
		{"enum E { A = 1; B = 0; }", api.ErrRule, "E"},
		{"enum E { A = 0; B = 0; }", api.ErrTwice, "E"},
		{"enum E { A = 0; A = 1; }", api.ErrTwice, "E"},
		{"enum E { A = 0; B = -1; C = -1; }", api.ErrTwice, "E"},
		{"enum E { A = 0; } enum F { A = 0; }", api.OK, ""},
		// of several the first
		{"message M { X a = 0; }", api.ErrRule, "M"},
		{"message M { int32 a = 1; X a = 2; }", api.ErrTwice, "M"},
		{"message M { int32 a = 1; reserved 'b'; int32 b = 1; }", api.ErrRule, "M"},
		{"message M { X a = 1 [packed=true]; }", api.ErrName, "M"},
		{"message M { int32 a = 1 [packed=true]; int32 a = 0; }", api.ErrRule, "M"},
		{"message M { oneof o { int32 a = 1; } oneof o { X b = 2; } }", api.ErrName, "M"},
		{"message M { message N { int32 a = 0; } X a = 1; }", api.ErrName, "M"},
		{"message M { message N { int32 a = 0; } enum E {} }", api.ErrRule, "M.N"},
		{"message M { enum E {} } message N { X a = 1; }", api.ErrRule, "M.E"},
		{"message M { enum E { A = 0; A = 1; } } message N { int32 a = 0; }", api.ErrTwice, "M.E"},
		{"message M { message L { enum E {} } int32 a = 1; } message N { X a = 1; }", api.ErrRule, "M.L.E"},
		{"message M { message L { enum E {} } message K { X a = 1; } }", api.ErrRule, "M.L.E"},
		{"message M { enum E {} message L { X a = 1; } }", api.ErrName, "M.L"},
		{"message M { enum E {} X a = 1; }", api.ErrName, "M"},
		{"message M { enum E {} enum F { A = 0; A = 1; } }", api.ErrRule, "M.E"},
		{"enum E {} message M { X a = 1; }", api.ErrName, "M"},
		{"enum F { A = 0; A = 1; } message M { enum E {} }", api.ErrRule, "M.E"},
		{"message M { enum E {} } message N {} message N {}", api.ErrTwice, "N"},
		{"enum E { A = 1; A = 1; }", api.ErrRule, "E"},
	} {
		s, e, whole := schema(t, "root:"+x.text)
		if e != x.e || whole != x.whole || e != api.OK && !reflect.DeepEqual(s, api.PSchema{}) {
			t.Errorf("%.80s: %d in %s, not %d in %s", x.text, e, whole, x.e, x.whole)
		}
	}
	if _, e, whole := schema(t, "root:package p; import 'b'; message M {}", "b:package p.M; message N {}"); e != api.OK {
		t.Errorf("%d %s", e, whole)
	}
	if _, e, whole := schema(t, "root:package p; import 'b'; message M { message N {} } message X { int32 a = 0; }", "b:package p.M; message N {}"); e != api.ErrTwice || whole != "p.M.N" {
		t.Errorf("in two files: %d %s", e, whole)
	}
}

// P10.1: files in order: what is imported stands ahead of who imports it, its enums, too.
func TestSchemaErrorsOfFiles(t *testing.T) {
	for _, x := range []struct {
		root, far string
		e         api.Errno
		whole     string
	}{
		{"message A { X a = 1; }", "enum E { B = 1; }", api.ErrRule, "E"},
		{"message A { X a = 1; }", "message M { enum E { B = 1; } }", api.ErrRule, "M.E"},
		{"enum E { B = 1; }", "message M { X a = 1; }", api.ErrName, "M"},
		{"enum E { B = 1; }", "enum F { B = 0; C = 0; }", api.ErrTwice, "F"},
		{"message A { enum E { B = 1; } }", "message M {} enum F { B = 0; }", api.ErrRule, "A.E"},
	} {
		if _, e, whole := schema(t, "root:import 'far'; "+x.root, "far:"+x.far); e != x.e || whole != x.whole {
			t.Errorf("%s, %s: %d in %s, not %d in %s", x.root, x.far, e, whole, x.e, x.whole)
		}
	}
}

// P10.2
func TestLookUp(t *testing.T) {
	s, _, _ := schema(t, "root:message M { int32 a = 5; int32 b = 2; oneof o { int32 c = 3; } } enum E { A = 0; B = 4; }")
	m, ok := Message(s, "M")
	if !ok || len(m.Fields) != 3 || len(m.Oneofs) != 1 {
		t.Fatalf("%v %v", m, ok)
	}
	if f, ok := Field(m, 2); !ok || f.Name != "b" {
		t.Errorf("%v %v", f, ok)
	}
	if f, ok := Field(m, 5); !ok || f.Name != "a" {
		t.Errorf("%v %v", f, ok)
	}
	if f, ok := Named(m, "c"); !ok || f.Num != 3 || f.Oneof != 1 {
		t.Errorf("%v %v", f, ok)
	}
	if f, ok := Field(m, 1); ok || f != (api.PField{}) {
		t.Errorf("%v %v", f, ok)
	}
	if f, ok := Named(m, "o"); ok || f != (api.PField{}) {
		t.Errorf("%v %v", f, ok)
	}
	m.Fields[0].Name, m.Oneofs[0] = "x", "x"
	u, ok := Enum(s, "E")
	if !ok || len(u.Values) != 2 || u.Values[1] != (api.PValue{Name: "B", N: 4}) {
		t.Errorf("%v %v", u, ok)
	}
	u.Values[0].Name = "x"
	if s.Messages[0].Fields[0].Name == "x" || s.Messages[0].Oneofs[0] == "x" || s.Enums[0].Values[0].Name == "x" {
		t.Error("what is told is the schema's memory")
	}
	if m, ok := Message(s, "E"); ok || m.Name != "" {
		t.Errorf("%v", m)
	}
	if u, ok := Enum(s, "M"); ok || u.Name != "" {
		t.Errorf("%v", u)
	}
}

// P10.1: both rise by name, whatever the order in which they are written.
func TestOrder(t *testing.T) {
	s, _, _ := schema(t, "root:message B {} enum Z { X = 0; } message A { message B {} } enum Y { X = 0; }")
	if len(s.Messages) != 3 || s.Messages[0].Name != "A" || s.Messages[1].Name != "A.B" || s.Messages[2].Name != "B" || s.Enums[0].Name != "Y" || s.Enums[1].Name != "Z" {
		t.Errorf("%v", s)
	}
}

// R3
func TestSchemaIsNew(t *testing.T) {
	files, _, _, _ := pname.Load([]api.Source{{Name: "a", Text: `syntax = "proto3"; message M { oneof o { int32 a = 1; } } enum E { A = 0; }`}})
	s, _, _ := Schema(files)
	s.Messages[0].Oneofs[0], s.Enums[0].Values[0].Name = "x", "x"
	if files[0].F.Messages[0].Oneofs[0] == "x" || files[0].F.Enums[0].Values[0].Name == "x" {
		t.Error("what is told is the files' memory")
	}
}
