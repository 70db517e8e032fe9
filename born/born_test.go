package born

import (
	"fmt"
	"reflect"
	"strings"
	"testing"

	"proclitic/api"
	"proclitic/avsc"
	"proclitic/json"
)

func from(t *testing.T, s string) api.ASchema {
	n, e := json.Parse(s)
	if e != api.OK {
		t.Fatalf("%s: %d", s, e)
	}
	a, e := avsc.From(n)
	if e != api.OK {
		t.Fatalf("%s: %d", s, e)
	}
	return a
}

// record writes a record of fields that are written one behind the other.
func record(name string, types ...string) string {
	var l []string
	for i, x := range types {
		l = append(l, fmt.Sprintf(`{"name":"f%d","type":%s}`, i, x))
	}
	return `{"type":"record","name":"` + name + `","fields":[` + strings.Join(l, ",") + `]}`
}

// P13.1
func TestHas(t *testing.T) {
	for _, x := range []struct{ s, want string }{
		{`"int"`, "1"},
		{record("R"), "1"},
		{record("R", `"R"`), "0"},
		{record("R", `["R"]`), "00"},
		{record("R", `["R","null"]`), "111"},
		{record("R", `{"type":"array","items":"R"}`), "11"},
		{record("R", `{"type":"map","values":"R"}`), "11"},
		{record("R", record("S", `"R"`), `"int"`), "001"},
		{record("R", `["null",`+record("S", `"S"`)+`]`), "1110"},
		{`{"type":"array","items":` + record("S", `"S"`) + `}`, "10"},
		{`[{"type":"enum","name":"E","symbols":["A"]},{"type":"fixed","name":"F","size":0}]`, "111"},
	} {
		got := ""
		for _, has := range Has(from(t, x.s)) {
			if has {
				got += "1"
			} else {
				got += "0"
			}
		}
		if got != x.want {
			t.Errorf("%s: %s", x.s, got)
		}
	}
}

// P13.1
func TestLeast(t *testing.T) {
	in := func(l ...api.AVal) api.AVal { return api.AVal{L: l} }
	for s, want := range map[string]api.AVal{
		`"null"`:                               {},
		`"long"`:                               {},
		`"bytes"`:                              {},
		`{"type":"fixed","name":"F","size":3}`: {S: "\x00\x00\x00"},
		`{"type":"enum","name":"E","symbols":["A","B"]}`:                   {},
		`{"type":"array","items":"int"}`:                                   {},
		`{"type":"map","values":"int"}`:                                    {},
		record("R"):                                                        {},
		record("R", `"int"`, `"string"`):                                   in(api.AVal{}, api.AVal{}),
		record("R", `["R","null"]`):                                        in(api.AVal{Branch: 1, L: []api.AVal{{}}}),
		record("R", `["null","R"]`):                                        in(api.AVal{Branch: 0, L: []api.AVal{{}}}),
		`[` + record("R") + `,"int",{"type":"map","values":"int"}]`:        {Branch: 1, L: []api.AVal{{}}},
		`[` + record("R", record("S")) + `,"S"]`:                           {Branch: 1, L: []api.AVal{{}}},
		record("R", `{"type":"fixed","name":"F","size":1}`, `["F","int"]`): in(api.AVal{S: "\x00"}, api.AVal{Branch: 0, L: []api.AVal{{S: "\x00"}}}),
	} {
		v, is := Least(from(t, s), 0)
		if !is || !reflect.DeepEqual(v, want) {
			t.Errorf("%s: %v %v", s, v, is)
		}
	}
}

// P13.1: the branch of the least rank, though one of a greater rank is met ahead of it.
func TestRanksByRounds(t *testing.T) {
	// 0: a union of a record of a record, and of a record that stands behind it.
	s := api.ASchema{Types: []api.AType{
		{Kind: api.AUnion, Branches: []int{2, 3}},
		{Kind: api.ARecord, Name: "A"},
		{Kind: api.ARecord, Name: "B", Fields: []api.AField{{Name: "a", Type: 1}}},
		{Kind: api.ARecord, Name: "C"},
	}}
	if v, is := Least(s, 0); !is || v.Branch != 1 {
		t.Errorf("%v %v", v, is)
	}
	s.Types[0], s.Types[3] = s.Types[3], s.Types[0]
	s.Types[3].Branches = []int{2, 0}
	if v, is := Least(s, 3); !is || v.Branch != 1 {
		t.Errorf("%v %v", v, is)
	}
}

// P13.1: a record and a union are one more than what they need.
func TestRanksAlike(t *testing.T) {
	x, y := record("X", `["int"]`), record("Y", record("Z"))
	for _, s := range []string{"[" + x + "," + y + "]", "[" + y + "," + x + "]"} {
		if v, is := Least(from(t, s), 0); !is || v.Branch != 0 {
			t.Errorf("%s: %v", s, v)
		}
	}
}

// P13.1
func TestLeastAtItsLimits(t *testing.T) {
	for n, want := range map[int]bool{999: true, 1000: false} {
		s := api.ASchema{Types: []api.AType{{Kind: api.ARecord}, {Kind: api.AUnion, Branches: []int{2}}, {Kind: api.AInt}}}
		for range n {
			s.Types[0].Fields = append(s.Types[0].Fields, api.AField{Type: 1})
		}
		if _, is := Least(s, 0); is != want {
			t.Errorf("%d unions: %v", n, is)
		}
	}
	for _, size := range []int{0, api.MaxBytes} {
		s := from(t, fmt.Sprintf(`{"type":"fixed","name":"F","size":%d}`, size))
		if v, is := Least(s, 0); !is || v.S != strings.Repeat("\x00", size) {
			t.Errorf("%d noughts: %v", size, is)
		}
	}
}

// P13.1
func TestNoLeast(t *testing.T) {
	for _, s := range []string{record("R", `"R"`), record("R", `["R"]`), record("R", record("S", `["R","S"]`))} {
		if v, is := Least(from(t, s), 0); is || v.L != nil {
			t.Errorf("%s: %v", s, v)
		}
	}
	s := from(t, `"int"`)
	for _, i := range []int{-1, 1} {
		if _, is := Least(s, i); is {
			t.Errorf("of no type %d", i)
		}
	}
	// R0 has n fields of R1, which has 9 of R2 ...: 1 + n * (1 + 9 * (1 + 9 * (1 + 1)))
	sized := func(n int) api.ASchema {
		row := func(n, t int) (l []api.AField) {
			for i := range n {
				l = append(l, api.AField{Name: fmt.Sprint("f", i), Type: t})
			}
			return l
		}
		return api.ASchema{Types: []api.AType{
			{Kind: api.ARecord, Name: "A", Fields: append(row(n, 1), row(27, 4)...)},
			{Kind: api.ARecord, Name: "B", Fields: row(9, 2)},
			{Kind: api.ARecord, Name: "C", Fields: row(9, 3)},
			{Kind: api.ARecord, Name: "D", Fields: row(1, 4)},
			{Kind: api.AInt},
		}}
	}
	if _, is := Least(sized(12), 0); is {
		t.Error("more than may be")
	}
	if v, is := Least(sized(10), 0); !is || count(v) != 1+10*172+27 {
		t.Errorf("%d %v", count(v), is)
	}
	exact := sized(11)
	exact.Types[0].Fields = exact.Types[0].Fields[:11] // 1 + 11 * 172 = 1893
	for n, want := range map[int]bool{107: true, 108: false} {
		s := exact
		s.Types = append([]api.AType(nil), exact.Types...)
		s.Types[0].Fields = append([]api.AField(nil), exact.Types[0].Fields...)
		for range n {
			s.Types[0].Fields = append(s.Types[0].Fields, api.AField{Type: 4})
		}
		if _, is := Least(s, 0); is != want {
			t.Errorf("%d values: %v", 1893+n, is)
		}
	}
	// Sixty records, two of the next one in each.
	var deep api.ASchema
	for i := range 60 {
		deep.Types = append(deep.Types, api.AType{Kind: api.ARecord, Name: fmt.Sprint("R", i), Fields: []api.AField{{Type: i + 1}, {Type: i + 1}}})
	}
	deep.Types[59].Fields = nil
	if _, is := Least(deep, 0); is || !Has(deep)[0] {
		t.Error("2^60 values")
	}
}

func count(v api.AVal) int {
	n := 1
	for _, part := range v.L {
		n += count(part)
	}
	return n
}

// R1: schemas that may not be.
func TestOddSchemas(t *testing.T) {
	for _, s := range []api.ASchema{
		{Types: []api.AType{{}}},
		{Types: []api.AType{{Kind: 15}}},
		{Types: []api.AType{{Kind: api.ARecord, Fields: []api.AField{{Type: 9}}}}},
		{Types: []api.AType{{Kind: api.AUnion, Branches: []int{-1, 0, 7}}}},
		{Types: []api.AType{{Kind: api.AFixed, Size: -1}}},
		{Types: []api.AType{{Kind: api.AFixed, Size: 1 << 60}}},
	} {
		Has(s)
		if _, is := Least(s, 0); is {
			t.Errorf("%v", s)
		}
	}
}
