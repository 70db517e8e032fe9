package pcomp

import (
	"testing"

	"proclitic/api"
	"proclitic/pname"
	"proclitic/prule"
)

func schema(t *testing.T, text string) api.PSchema {
	files, e, _, at := pname.Load([]api.Source{{Name: "a", Text: `syntax = "proto3"; ` + text}})
	if e != api.OK {
		t.Fatalf("%s: %d %d", text, e, at)
	}
	s, e, whole := prule.Schema(files)
	if e != api.OK {
		t.Fatalf("%s: %d %s", text, e, whole)
	}
	return s
}

// P18.1
func TestKinds(t *testing.T) {
	groups := map[int]int{api.KInt32: 1, api.KInt64: 1, api.KUint32: 1, api.KUint64: 1, api.KBool: 1, api.KEnum: 1, api.KSint32: 2, api.KSint64: 2, api.KFixed32: 3, api.KSfixed32: 3, api.KFixed64: 4, api.KSfixed64: 4,
		api.KDouble: 5, api.KFloat: 6, api.KString: 7, api.KBytes: 8, api.KMessage: 9}
	for a := -1; a < 20; a++ {
		for b := -1; b < 20; b++ {
			want := groups[a] != 0 && groups[a] == groups[b] || a == api.KString && b == api.KBytes
			if Kinds(a, b) != want {
				t.Errorf("%d %d: %v", a, b, !want)
			}
		}
	}
}

// P18.1
func TestReads(t *testing.T) {
	for i, x := range []struct {
		a, b string
		want bool
	}{
		{"message M {}", "message M {}", true},
		{"message M { int32 a = 1; string s = 2; }", "message M {}", true},
		{"message M {}", "message M { int32 a = 1; }", true},
		{"message M { int32 a = 1; }", "message M { bool other = 1; }", true},
		{"message M { int32 a = 1; }", "message M { E a = 1; } enum E { A = 0; }", true},
		{"message M { int32 a = 1; }", "message M { sint32 a = 1; }", false},
		{"message M { int32 a = 1; }", "message M { sint32 a = 2; }", true},
		{"message M { string a = 1; }", "message M { bytes a = 1; }", true},
		{"message M { bytes a = 1; }", "message M { string a = 1; }", false},
		{"message M { M a = 1; }", "message M { bytes a = 1; }", false},
		{"message M { int32 a = 1; }", "message M { optional int32 a = 1; }", true},
		{"message M { optional int32 a = 1; }", "message M { int32 a = 1; }", true},
		{"message M { int32 a = 1; }", "message M { repeated int32 a = 1; }", false},
		{"message M { repeated int32 a = 1; }", "message M { int32 a = 1; }", false},
		{"message M { repeated int32 a = 1; }", "message M { repeated bool a = 1; }", true},
		{"message M { repeated int32 a = 1; }", "message M { repeated int32 a = 1 [packed=false]; }", false},
		{"message M { repeated int32 a = 1 [packed=false]; }", "message M { repeated int32 a = 1; }", false},
		{"message M { repeated int32 a = 1 [packed=false]; }", "message M { repeated int64 a = 1 [packed=false]; }", true},
		{"message M { repeated string a = 1; }", "message M { repeated bytes a = 1; }", true},
		{"message M { map<int32, string> a = 1; }", "message M { map<int32, bytes> a = 1; }", true},
		{"message M { map<int32, string> a = 1; }", "message M { map<int64, string> a = 1; }", false},
		{"message M { map<int32, int32> a = 1; }", "message M { map<int32, sint32> a = 1; }", false},
		{"message M { map<int32, string> a = 1; }", "message M { repeated string a = 1; }", false},
		{"message M { repeated N a = 1; } message N { int32 a = 1; }", "message M { repeated N a = 1; } message N { bool a = 1; }", true},
		{"message M { N a = 1; } message N { int32 a = 1; }", "message M { N a = 1; } message N { float a = 1; }", false},
		{"message M { map<int32, N> a = 1; } message N { int32 a = 1; }", "message M { map<int32, N> a = 1; } message N { float a = 1; }", false},
		{"message M { M a = 1; }", "message M { N a = 1; } message N { M a = 1; }", true},
		{"message M { M a = 1; int32 b = 2; }", "message M { N a = 1; } message N { M a = 1; float b = 2; }", false},
		{"message M { M a = 1; N n = 2; } message N { M m = 1; int32 i = 2; }", "message M { M a = 1; N n = 2; } message N { M m = 1; bytes i = 2; }", false},
		{"message M { oneof o { int32 a = 1; int32 b = 2; } }", "message M { oneof p { int32 a = 1; int32 b = 2; } }", true},
		{"message M { oneof o { int32 a = 1; int32 b = 2; } }", "message M { int32 a = 1; optional int32 b = 2; }", true},
		{"message M { int32 a = 1; int32 b = 2; }", "message M { oneof p { int32 a = 1; int32 b = 2; } }", false},
		{"message M { oneof o { int32 a = 1; } int32 b = 2; }", "message M { oneof p { int32 a = 1; int32 b = 2; } }", false},
		{"message M { oneof o { int32 a = 1; } oneof q { int32 b = 2; } }", "message M { oneof p { int32 a = 1; int32 b = 2; } }", false},
		{"message M { oneof o { int32 a = 1; } }", "message M { oneof p { int32 a = 1; int32 b = 2; } }", true},
		{"message M { int32 a = 1; int32 c = 3; }", "message M { oneof p { int32 a = 1; int32 b = 2; } oneof q { int32 c = 3; } }", true},
		{"message M { oneof o { int32 a = 1; int32 b = 2; } oneof q { int32 c = 3; } }", "message M { oneof p { int32 a = 1; int32 b = 2; } oneof q { int32 c = 3; } }", true},
	} {
		o, n := schema(t, x.a), schema(t, x.b)
		if Reads(o, n, "M", "M") != x.want {
			t.Errorf("%d: %s, %s: %v", i, x.a, x.b, !x.want)
		}
		if !Reads(o, o, "M", "M") || !Reads(n, n, "M", "M") {
			t.Errorf("%d: a schema does not read itself", i)
		}
		if Reads(o, n, "M", "X") || Reads(o, n, "X", "M") || Reads(o, n, "", "") {
			t.Errorf("%d: there is no such message", i)
		}
	}
	odd := api.PSchema{Messages: []api.PMessage{{Name: "M", Fields: []api.PField{{Num: 1, Kind: api.KMessage, Type: "none"}}}}}
	if Reads(odd, odd, "M", "M") {
		t.Error("of a message that is not there")
	}
}
