package canon

import (
	"testing"

	"proclitic/api"
	"proclitic/avsc"
	"proclitic/json"
)

func from(t *testing.T, s string) api.ASchema {
	n, e := json.Parse(s)
	if e != api.OK {
		t.Fatalf("%s: %d", s, e)
	}
	a, e := avsc.From(n)
	if e != api.OK {
		t.Fatalf("%s: %d", s, e)
	}
	return a
}

// P12.1
func TestText(t *testing.T) {
	for s, want := range map[string]string{
		`"int"`:                    `"int"`,
		` {"type":"string","a":1}`: `"string"`,
		`["null", "boolean","long","float","double","bytes"]`:                     `["null","boolean","long","float","double","bytes"]`,
		`{"items":{"values":"int","type":"map"}, "type":"array"}`:                 `{"type":"array","items":{"type":"map","values":"int"}}`,
		`{"type":"fixed","size":12,"name":"F","namespace":"a.b","aliases":["G"]}`: `{"name":"a.b.F","type":"fixed","size":12}`,
		`{"type":"enum","symbols":["B","A"],"name":"E","default":"A","doc":"x"}`:  `{"name":"E","type":"enum","symbols":["B","A"]}`,
		`{"type":"record","name":"R","fields":[]}`:                                `{"name":"R","type":"record","fields":[]}`,
		`{"type":"record","name":"R","namespace":"n","fields":[{"type":["null","R"],"name":"next","default":null,"aliases":["m"]},{"name":"f","type":{"type":"fixed","name":"F","size":0}},{"name":"g","type":{"type":"F"}}]}`: `{"name":"n.R","type":"record","fields":[{"name":"next","type":["null","n.R"]},{"name":"f","type":{"name":"n.F","type":"fixed","size":0}},{"name":"g","type":"n.F"}]}`,
	} {
		a := from(t, s)
		got := Text(a)
		if got != want {
			t.Errorf("%s: %s", s, got)
		}
		if back := Text(from(t, got)); back != got {
			t.Errorf("%s is read as %s", got, back)
		}
	}
}

// P12.1
func TestPrint(t *testing.T) {
	// Told of these schemas elsewhere.
	for s, want := range map[string]uint64{
		`"int"`:             0x7275d51a3f395c8f,
		`{"type":"string"}`: 0x8f014872634503c7,
		`{"type":"fixed","name":"Test","size":1}`: Print(from(t, `{"size":1,"namespace":"","name":"Test","type":"fixed"}`)),
	} {
		if v := Print(from(t, s)); v != want {
			t.Errorf("%s: %x", s, v)
		}
	}
	if Print(from(t, `"long"`)) == Print(from(t, `"int"`)) {
		t.Error("two texts of one fingerprint")
	}
}

// R1: schemas that may not be.
func TestOddSchemas(t *testing.T) {
	wide := api.ASchema{}
	for i := range 100 {
		wide.Types = append(wide.Types, api.AType{Kind: api.AUnion, Branches: []int{i + 1, i + 1, i, -1}})
	}
	for _, s := range []api.ASchema{
		{},
		{Types: []api.AType{{}}},
		{Types: []api.AType{{Kind: 99}}},
		{Types: []api.AType{{Kind: api.AArray}}},
		{Types: []api.AType{{Kind: api.AMap, Items: -1}}},
		{Types: []api.AType{{Kind: api.ARecord, Fields: []api.AField{{Type: 5}, {}}}}},
		wide,
	} {
		Text(s)
		Print(s)
	}
}
