package desk

import (
	"fmt"
	"reflect"
	"strings"
	"testing"

	"proclitic/api"
)

const head = `syntax = "proto3"; `

func proto(name, text string) api.Request {
	return api.Request{Kind: api.AskProto, Name: name, Sources: []api.Source{{Name: "root", Text: head + text}}}
}

func avro(name, text string) api.Request {
	return api.Request{Kind: api.AskAvro, Name: name, Text: text}
}

// desk tells a desk that is asked all of them well.
func desk(t *testing.T, l ...api.Request) *Desk {
	d := New()
	for _, r := range l {
		if e := d.Ask(r).Err; e != api.OK {
			t.Fatalf("%v: %d", r, e)
		}
	}
	return d
}

// ask asks, and tells how the answer is not the one that is wanted; what fails must change nothing.
func ask(t *testing.T, d *Desk, r api.Request, want api.Reply) {
	t.Helper()
	before := d.Copy()
	got := d.Ask(r)
	if got.Err != want.Err || string(got.Bytes) != string(want.Bytes) || got.Text != want.Text {
		t.Errorf("%d %s %s: %d %x %s, not %d %x %s", r.Kind, r.Name, r.Text, got.Err, got.Bytes, got.Text, want.Err, want.Bytes, want.Text)
	}
	if got.Err != api.OK && !reflect.DeepEqual(before.schemas, d.schemas) {
		t.Errorf("%d %s: an error that changes the desk", r.Kind, r.Name)
	}
}

func no(e api.Errno) api.Reply       { return api.Reply{Err: e} }
func bytes(s string) api.Reply       { return api.Reply{Bytes: []byte(s)} }
func text(s string) api.Reply        { return api.Reply{Text: s} }
func yes() api.Reply                 { return api.Reply{} }
func record(fields string) string    { return `{"type":"record","name":"R","fields":[` + fields + `]}` }
func field(name, more string) string { return `{"name":"` + name + `","type":` + more + `}` }

// P30.1
func TestArguments(t *testing.T) {
	d := desk(t, avro("a", `"int"`))
	for _, name := range []string{"", "a-b", "a b", "é", "a.b", strings.Repeat("a", 21)} {
		ask(t, d, avro(name, `"int"`), no(api.ErrArg))
		ask(t, d, api.Request{Kind: api.AskForget, Name: name}, no(api.ErrArg))
	}
	for _, kind := range []int{0, -1, 11, 1 << 40} {
		ask(t, d, api.Request{Kind: kind, Name: "a"}, no(api.ErrArg))
	}
	for _, name := range []string{"1", "_", "A_9", strings.Repeat("z", 20)} {
		ask(t, d, avro(name, `"int"`), yes())
	}
}

// P30.1
func TestProto(t *testing.T) {
	d := New()
	ask(t, d, api.Request{Kind: api.AskProto, Name: "p"}, no(api.ErrNone))
	ask(t, d, proto("p", "?"), no(api.ErrMalformed))
	ask(t, d, proto("p", "import 'x';"), no(api.ErrNone))
	ask(t, d, proto("p", "message M { X a = 1; }"), no(api.ErrName))
	ask(t, d, proto("p", "message M { int32 a = 0; }"), no(api.ErrRule))
	ask(t, d, proto("p", strings.Repeat(" ", api.MaxText)), no(api.ErrLimit))
	ask(t, d, proto("p", "message M { int32 a = 1; }"), yes())
	ask(t, d, proto("p", "message M { /* the same */ int32 a = 0x1; }"), yes())
	ask(t, d, proto("p", "message M { int32 b = 1; }"), no(api.ErrTwice))
	ask(t, d, proto("p", "message M { int32 a = 1; } enum E { A = 0; }"), no(api.ErrTwice))
	ask(t, d, proto("p", "message M { int32 a = 0; }"), no(api.ErrRule))
	ask(t, d, avro("p", `"int"`), no(api.ErrTwice))
	ask(t, d, proto("e", "enum E { A = 0; B = 1; }"), yes())
	ask(t, d, proto("e", "enum E { A = 0; B = 1; }"), yes())
	for _, other := range []string{"enum F { A = 0; B = 1; }", "enum E { A = 0; }", "enum E { A = 0; C = 1; }", "enum E { A = 0; B = 2; }"} {
		ask(t, d, proto("e", other), no(api.ErrTwice))
	}
	r := api.Request{Kind: api.AskProto, Name: "q", Sources: []api.Source{{Name: "a", Text: head + "import 'b'; message M { N n = 1; }"}, {Name: "b", Text: head + "message N {}"}}}
	ask(t, d, r, yes())
	r.Sources[0], r.Sources[1] = r.Sources[1], r.Sources[0]
	ask(t, d, r, no(api.ErrTwice))
}

// P30.1
func TestAvro(t *testing.T) {
	d := New()
	ask(t, d, avro("a", `x`), no(api.ErrMalformed))
	ask(t, d, avro("a", `{"a":1,"a":2}`), no(api.ErrTwice))
	ask(t, d, avro("a", `"x"`), no(api.ErrName))
	ask(t, d, avro("a", record(field("a", `"int","default":"x"`))), no(api.ErrType))
	ask(t, d, avro("a", `"int"`+strings.Repeat(" ", api.MaxText-5)), yes())
	ask(t, d, avro("b", `"int"`+strings.Repeat(" ", api.MaxText-4)), no(api.ErrLimit))
	ask(t, d, avro("a", ` {"type":"int"}`), yes())
	ask(t, d, avro("a", `"long"`), no(api.ErrTwice))
	ask(t, d, avro("r", record(field("a", `"int","default":1`))), yes())
	ask(t, d, avro("r", record(field("a", `"int", "default" : 1, "doc":""`))), yes())
	for _, other := range []string{
		record(field("a", `"int"`)), record(field("a", `"int","default":2`)), record(field("a", `"int","default":1,"aliases":["b"]`)),
		`{"type":"record","name":"R","aliases":["S"],"fields":[` + field("a", `"int","default":1`) + `]}`, record(field("b", `"int","default":1`)),
		record(field("a", `"long","default":1`)), record(field("a", `"int","default":1`) + "," + field("b", `"int","default":1`)),
	} {
		ask(t, d, avro("r", other), no(api.ErrTwice))
	}
	ask(t, d, proto("a", ""), no(api.ErrTwice))
}

// P30.1
func TestRoom(t *testing.T) {
	d := New()
	for i := range api.MaxTrees {
		ask(t, d, avro(fmt.Sprint(i), `"int"`), yes())
	}
	ask(t, d, avro("x", `"int"`), no(api.ErrLimit))
	ask(t, d, proto("x", ""), no(api.ErrLimit))
	ask(t, d, avro("x", `"y"`), no(api.ErrName))
	ask(t, d, avro("0", `"long"`), no(api.ErrTwice))
	ask(t, d, avro("0", `"int"`), yes())
	ask(t, d, api.Request{Kind: api.AskForget, Name: "0"}, yes())
	ask(t, d, avro("x", `"int"`), yes())
	ask(t, d, avro("0", `"long"`), no(api.ErrLimit))
}

// P30.1
func TestWhatIsWanted(t *testing.T) {
	d := desk(t, avro("a", `"int"`), avro("b", `"long"`), proto("p", "message M {}"), proto("q", "message M {}"))
	for _, x := range []struct {
		kind        int
		name, other string
		e           api.Errno
	}{
		{api.AskTranscode, "x", "b", api.ErrNone},
		{api.AskTranscode, "a", "x", api.ErrNone},
		{api.AskTranscode, "p", "x", api.ErrNone},
		{api.AskTranscode, "p", "b", api.ErrType},
		{api.AskTranscode, "a", "p", api.ErrType},
		{api.AskTranscode, "p", "q", api.ErrType},
		{api.AskRead, "p", "x", api.ErrNone},
		{api.AskRead, "p", "a", api.ErrType},
		{api.AskRead, "a", "b", api.ErrType},
		{api.AskProject, "x", "", api.ErrNone},
		{api.AskProject, "a", "", api.ErrType},
		{api.AskMerge, "x", "", api.ErrNone},
		{api.AskMerge, "a", "", api.ErrType},
		{api.AskShow, "x", "", api.ErrNone},
		{api.AskTell, "x", "", api.ErrNone},
		{api.AskCheck, "x", "a", api.ErrNone},
		{api.AskCheck, "a", "x", api.ErrNone},
		{api.AskCheck, "a", "p", api.ErrType},
		{api.AskCheck, "p", "a", api.ErrType},
		{api.AskForget, "x", "", api.ErrNone},
	} {
		ask(t, d, api.Request{Kind: x.kind, Name: x.name, Other: x.other, Type: "M", Type2: "M"}, no(x.e))
	}
}

// P30.1
func TestTranscode(t *testing.T) {
	d := desk(t, avro("int", `"int"`), avro("long", `"long"`), avro("string", `"string"`),
		avro("some", `["null","int"]`), avro("w", record(field("a", `"int"`))), avro("r", record(field("b", `{"type":"array","items":"int"},"default":[1]`)+","+field("a", `"double"`))))
	for _, x := range []struct {
		w, r, b string
		want    api.Reply
	}{
		{"int", "long", "\x03", bytes("\x03")},
		{"int", "long", "\x83\x00", bytes("\x03")},
		{"int", "int", "\x03\x00", no(api.ErrMalformed)},
		{"int", "int", "", no(api.ErrMalformed)},
		{"int", "string", "?", no(api.ErrCompat)},
		{"long", "int", "\x00", no(api.ErrCompat)},
		{"some", "int", "\x02\x04", no(api.ErrCompat)},
		{"w", "r", "\x02", bytes("\x02\x02\x00\x00\x00\x00\x00\x00\x00\xf0\x3f")},
		{"w", "w", "\x02", bytes("\x02")},
		{"string", "string", "\x92\x4e", no(api.ErrLimit)},
		{"string", "string", "\x90\x4e" + strings.Repeat("a", 5000), no(api.ErrLimit)},
	} {
		ask(t, d, api.Request{Kind: api.AskTranscode, Name: x.w, Other: x.r, Bytes: []byte(x.b)}, x.want)
	}
}

// P30.1
func TestRead(t *testing.T) {
	d := desk(t, proto("o", "message M { int32 a = 1; string s = 2; }"), proto("n", "message M { bool a = 1; int32 more = 3; } message N { sint32 a = 1; }"))
	r := api.Request{Kind: api.AskRead, Name: "o", Other: "n", Type: "M", Type2: "M", Bytes: []byte("\x12\x01a\x08\x80\x02")}
	ask(t, d, r, bytes("\x08\x01\x12\x01a"))
	r.Type2, r.Bytes = "N", []byte("\x00")
	ask(t, d, r, no(api.ErrCompat))
	r.Type2 = "X"
	ask(t, d, r, no(api.ErrCompat))
	r.Type2 = "M"
	ask(t, d, r, no(api.ErrMalformed))
	r.Bytes = make([]byte, api.MaxBytes+1)
	ask(t, d, r, no(api.ErrLimit))
}

// P30.1
func TestMasks(t *testing.T) {
	d := desk(t, proto("p", "message M { int32 a = 1; string s = 2; M m = 3; }"))
	r := api.Request{Kind: api.AskProject, Name: "p", Type: "M", Text: "a,m.a", Bytes: []byte("\x12\x01a\x08\x05\x1a\x02\x08\x07")}
	ask(t, d, r, bytes("\x08\x05\x1a\x02\x08\x07"))
	r.Kind, r.More = api.AskMerge, []byte("\x08\x06\x1a\x03\x12\x01z")
	ask(t, d, r, bytes("\x12\x01a\x08\x06\x1a\x00"))
	for _, kind := range []int{api.AskProject, api.AskMerge} {
		r.Kind = kind
		r.Text, r.Bytes = "a..b", []byte("\x00")
		ask(t, d, r, no(api.ErrMask))
		r.Text = strings.Repeat("a,", 20) + "a"
		ask(t, d, r, no(api.ErrLimit))
		r.Text = "x"
		ask(t, d, r, no(api.ErrMask))
		r.Text = "a"
		ask(t, d, r, no(api.ErrMalformed))
	}
	r.Bytes, r.More = nil, []byte("\x00")
	ask(t, d, r, no(api.ErrMalformed))
}

// P30.1
func TestShowAndTell(t *testing.T) {
	d := desk(t, avro("i", `"int"`), proto("p", "message M { int32 a = 1; repeated string s = 2; map<int64, M> m = 3; }"), avro("a", `["null",`+record(field("a", `"long"`))+`]`))
	for _, x := range []struct{ name, typ, b, text string }{
		{"p", "M", "", "{}"},
		{"p", "M", "\x08\x05\x12\x01a\x12\x00\x1a\x06\x08\x02\x12\x02\x08\x01", `{"a":5,"s":["a",""],"m":{"2":{"a":1}}}`},
		{"a", "", "\x00", "null"},
		{"a", "", "\x02\x03", `{"R":{"a":"-2"}}`},
	} {
		ask(t, d, api.Request{Kind: api.AskShow, Name: x.name, Type: x.typ, Bytes: []byte(x.b)}, text(x.text))
		ask(t, d, api.Request{Kind: api.AskTell, Name: x.name, Type: x.typ, Text: " " + x.text}, bytes(x.b))
	}
	for _, x := range []struct {
		r api.Request
		e api.Errno
	}{
		{api.Request{Kind: api.AskShow, Name: "p", Type: "X"}, api.ErrArg},
		{api.Request{Kind: api.AskShow, Name: "p", Type: "M", Bytes: []byte("\x00")}, api.ErrMalformed},
		{api.Request{Kind: api.AskShow, Name: "a"}, api.ErrMalformed},
		{api.Request{Kind: api.AskShow, Name: "a", Bytes: []byte("\x00\x00")}, api.ErrMalformed},
		{api.Request{Kind: api.AskTell, Name: "p", Type: "X", Text: "{"}, api.ErrMalformed},
		{api.Request{Kind: api.AskTell, Name: "p", Type: "X", Text: "{}"}, api.ErrArg},
		{api.Request{Kind: api.AskTell, Name: "p", Type: "M", Text: `{"a":0}`}, api.ErrType},
		{api.Request{Kind: api.AskTell, Name: "p", Type: "M", Text: `{"s":["` + strings.Repeat("a", 5000) + `"]}`}, api.ErrLimit},
		{api.Request{Kind: api.AskTell, Name: "a", Text: `{"a":1}`}, api.ErrType},
		{api.Request{Kind: api.AskTell, Name: "i", Text: `"1"`}, api.ErrType},
		{api.Request{Kind: api.AskTell, Name: "p", Type: "M", Text: `{"b":1}`}, api.ErrType},
		{api.Request{Kind: api.AskTell, Name: "a", Text: `{"a":1`}, api.ErrMalformed},
		{api.Request{Kind: api.AskTell, Name: "a", Text: strings.Repeat(" ", 2*api.MaxBytes+1)}, api.ErrLimit},
	} {
		ask(t, d, x.r, no(x.e))
	}
}

// P30.1
func TestCheckAndForget(t *testing.T) {
	d := desk(t, proto("o", "message M { int32 a = 1; }"), proto("n", "message M { sint32 a = 1; } message N {}"), avro("int", `"int"`), avro("long", `"long"`))
	for _, x := range []struct {
		name, other, t1, t2 string
		want                api.Errno
	}{
		{"o", "n", "M", "N", api.OK},
		{"o", "n", "M", "M", api.ErrCompat},
		{"o", "o", "M", "X", api.ErrCompat},
		{"int", "long", "", "", api.OK},
		{"long", "int", "", "", api.ErrCompat},
	} {
		ask(t, d, api.Request{Kind: api.AskCheck, Name: x.name, Other: x.other, Type: x.t1, Type2: x.t2}, no(x.want))
	}
	ask(t, d, api.Request{Kind: api.AskForget, Name: "o"}, yes())
	ask(t, d, api.Request{Kind: api.AskForget, Name: "o"}, no(api.ErrNone))
	ask(t, d, proto("o", "message Other {}"), yes())
}

// P30.2
func TestNamesPrintCopy(t *testing.T) {
	d := desk(t, avro("b", `"int"`), proto("a", "message M {}"), avro("B", `"string"`))
	if got := strings.Join(d.Names(), " "); got != "B a b" {
		t.Error(got)
	}
	d.Names()[0] = "x"
	for name, want := range map[string]uint64{"b": 0x7275d51a3f395c8f, "B": 0x8f014872634503c7, "a": 0} {
		if v, ok := d.Print(name); v != want || !ok {
			t.Errorf("%s: %x %v", name, v, ok)
		}
	}
	if v, ok := d.Print("x"); v != 0 || ok {
		t.Errorf("%x %v", v, ok)
	}
	c := d.Copy()
	ask(t, c, api.Request{Kind: api.AskForget, Name: "b"}, yes())
	ask(t, d, avro("z", `"int"`), yes())
	if got := strings.Join(c.Names(), " "); got != "B a" {
		t.Error(got)
	}
	if got := strings.Join(d.Names(), " "); got != "B a b z" {
		t.Error(got)
	}
	if New().Names() != nil && len(New().Names()) != 0 {
		t.Error("a new desk has names")
	}
}

// P30.2
func TestNilDesk(t *testing.T) {
	var d *Desk
	if r := d.Ask(avro("a", `"int"`)); r.Err != api.ErrArg || r.Bytes != nil || r.Text != "" {
		t.Errorf("%v", r)
	}
	if v, ok := d.Print("a"); v != 0 || ok || d.Names() != nil || d.Copy() != nil {
		t.Error("of a nil desk: something")
	}
	empty := &Desk{}
	ask(t, empty, avro("a", `"int"`), yes())
	if len(empty.Names()) != 1 {
		t.Error("a desk that nobody made anew")
	}
}
