package adec

import (
	"reflect"
	"strings"
	"testing"

	"proclitic/api"
	"proclitic/aval"
	"proclitic/avsc"
	"proclitic/json"
)

func from(t *testing.T, s string) api.ASchema {
	n, e := json.Parse(s)
	if e != api.OK {
		t.Fatalf("%s: %d", s, e)
	}
	a, e := avsc.From(n)
	if e != api.OK {
		t.Fatalf("%s: %d", s, e)
	}
	return a
}

func n(v int64) api.AVal            { return api.AVal{N: uint64(v)} }
func tx(s string) api.AVal          { return api.AVal{S: s} }
func in(l ...api.AVal) api.AVal     { return api.AVal{L: l} }
func un(b int, v api.AVal) api.AVal { return api.AVal{Branch: b, L: []api.AVal{v}} }
func mp(keys string, l ...api.AVal) api.AVal {
	return api.AVal{Keys: strings.Split(keys, " "), L: l}
}

const (
	array  = `{"type":"array","items":"int"}`
	maps   = `{"type":"map","values":"int"}`
	enum   = `{"type":"enum","name":"E","symbols":["A","B"]}`
	fixed  = `{"type":"fixed","name":"F","size":2}`
	record = `{"type":"record","name":"R","fields":[{"name":"a","type":"int"},{"name":"b","type":["null","R"]}]}`
	// least and most are the least and the greatest long.
	least = "\xff\xff\xff\xff\xff\xff\xff\xff\xff\x01"
	most  = "\xfe\xff\xff\xff\xff\xff\xff\xff\xff\x01"
)

// P21.1
func TestDecode(t *testing.T) {
	for _, x := range []struct {
		s, b string
		v    api.AVal
	}{
		{`"null"`, "", api.AVal{}},
		{`"boolean"`, "\x01", n(1)},
		{`"boolean"`, "\x00", n(0)},
		{`"int"`, "\x00", n(0)},
		{`"int"`, "\x01", n(-1)},
		{`"int"`, "\x02", n(1)},
		{`"int"`, "\x82\x80\x80\x80\x80\x80\x80\x80\x80\x00", n(1)},
		{`"int"`, "\xff\xff\xff\xff\x0f", n(-1 << 31)},
		{`"int"`, "\xfe\xff\xff\xff\x0f", n(1<<31 - 1)},
		{`"long"`, least, n(-1 << 63)},
		{`"long"`, most, n(1<<63 - 1)},
		{`"float"`, "\x01\x02\x03\xff", n(0xff030201)},
		{`"double"`, "\x01\x00\x00\x00\x00\x00\x00\x80", n(-1<<63 + 1)},
		{`"bytes"`, "\x04\xff\x00", tx("\xff\x00")},
		{`"string"`, "\x04é", tx("é")},
		{`"string"`, "\x00", tx("")},
		{fixed, "\xff\xfe", tx("\xff\xfe")},
		{enum, "\x02", n(1)},
		{array, "\x00", api.AVal{}},
		{array, "\x04\x02\x04\x00", in(n(1), n(2))},
		{array, "\x02\x02\x02\x04\x00", in(n(1), n(2))},
		{array, "\x03\x04\x02\x04\x02\x06\x00", in(n(1), n(2), n(3))},
		{array, "\x03\x06\x82\x00\x04\x00", in(n(1), n(2))},
		{maps, "\x00", api.AVal{}},
		{maps, "\x04\x02b\x02\x02a\x04\x00", mp("a b", n(2), n(1))},
		{maps, "\x04\x02b\x02\x02a\x04\x02\x02b\x06\x00", mp("a b", n(2), n(3))},
		{maps, "\x03\x0a\x00\x02\x02a\x04\x00", mp(" a", n(1), n(2))},
		{maps, "\x01\x04\x00\x02\x00", mp("", n(1))},
		{`["int","null"]`, "\x02", un(1, n(0))},
		{`["int","null"]`, "\x00\x04", un(0, n(2))},
		{record, "\x02\x02\x04\x00", in(n(1), un(1, in(n(2), un(0, n(0)))))},
		{`{"type":"record","name":"R","fields":[]}`, "", api.AVal{}},
	} {
		s := from(t, x.s)
		for _, behind := range []string{"", "\x00", "\xff"} {
			v, n, e := Decode(s, 0, []byte(x.b+behind))
			if e != api.OK || n != len(x.b) || !reflect.DeepEqual(v, x.v) || !aval.Fits(s, 0, v) {
				t.Errorf("%s %x: %v %d %d", x.s, x.b, v, n, e)
			}
		}
		for i := range len(x.b) {
			if v, n, e := Decode(s, 0, []byte(x.b[:i])); e != api.ErrMalformed || n != 0 || !reflect.DeepEqual(v, api.AVal{}) {
				t.Errorf("%s %x: %v %d %d", x.s, x.b[:i], v, n, e)
			}
		}
	}
}

// nested writes an array of ints within so many arrays.
func nested(n int) string {
	return strings.Repeat(`{"type":"array","items":`, n) + array + strings.Repeat("}", n)
}

// P21.1
func TestArraysWithinEachOther(t *testing.T) {
	s := api.ASchema{Types: []api.AType{{Kind: api.AArray, Items: 0}}}
	for n, want := range map[int]api.Errno{19: api.OK, 20: api.ErrLimit} {
		b := strings.Repeat("\x02", n) + strings.Repeat("\x00", n+1)
		if _, _, e := Decode(s, 0, []byte(b)); e != want {
			t.Errorf("%d within each other: %d", n, e)
		}
	}
}

// P21.1
func TestDecodeErrors(t *testing.T) {
	text := "\x92\x4e" + strings.Repeat("a", 5001)
	for _, x := range []struct {
		s, b string
		e    api.Errno
	}{
		{`"boolean"`, "\x02", api.ErrMalformed},
		{`"int"`, "\x80\x80\x80\x80\x10", api.ErrMalformed},
		{`"int"`, "\x81\x80\x80\x80\x10", api.ErrMalformed},
		{`"int"`, least, api.ErrMalformed},
		{`"long"`, "\xff\xff\xff\xff\xff\xff\xff\xff\xff\x02", api.ErrMalformed},
		{`"long"`, "\x80\x80\x80\x80\x80\x80\x80\x80\x80\x80\x00", api.ErrMalformed},
		{`"bytes"`, "\x01", api.ErrMalformed},
		{`"bytes"`, least, api.ErrMalformed},
		{`"bytes"`, text, api.ErrLimit},
		{`"bytes"`, text[:2], api.ErrLimit},
		{`"bytes"`, most, api.ErrLimit},
		{`"bytes"`, "\x90\x4e" + strings.Repeat("a", 5000), api.OK},
		{`"string"`, text, api.ErrLimit},
		{`"string"`, "\x02\xff", api.ErrMalformed},
		{`"string"`, "\x02\xc3", api.ErrMalformed},
		{enum, "\x04", api.ErrMalformed},
		{enum, "\x01", api.ErrMalformed},
		{enum, most, api.ErrMalformed},
		{`["int"]`, "\x02", api.ErrMalformed},
		{`["int"]`, "\x01", api.ErrMalformed},
		{`["int"]`, most, api.ErrMalformed},
		{array, least, api.ErrMalformed},
		{array, least + "\x00", api.ErrMalformed},
		{array, least + "\x00\x00", api.ErrMalformed},
		{`{"type":"array","items":"null"}`, "\x01\x00\x00", api.OK},
		{`{"type":"array","items":"null"}`, "\x01\x01\x00", api.ErrMalformed},
		{nested(18), strings.Repeat("\x02", 18) + "\x02\x02" + strings.Repeat("\x00", 19), api.OK},
		{nested(18), strings.Repeat("\x02", 18) + "\x00" + strings.Repeat("\x00", 18), api.OK},
		{array, "\x01\x01\x02\x00", api.ErrMalformed},
		{array, "\x01\x00\x02\x00", api.ErrMalformed},
		{array, "\x01\x04\x02\x00", api.ErrMalformed},
		{array, "\x01\x04\x02\x00\x00", api.ErrMalformed},
		{array, "\x01" + most + "\x02\x00", api.ErrMalformed},
		{array, "\x01" + least + "\x02\x00", api.ErrMalformed},
		{array, "\x02", api.ErrMalformed},
		{array, most, api.ErrMalformed},
		{array, strings.Repeat("\x02\x02", 1999) + "\x00", api.OK},
		{array, strings.Repeat("\x02\x02", 2000) + "\x00", api.ErrLimit},
		{array, strings.Repeat("\x02\x02", 2000), api.ErrLimit},
		{array, strings.Repeat("\x02\x02", 1999) + "\x02", api.ErrLimit},
		{array, strings.Repeat("\x02\x02", 1998) + "\x02", api.ErrMalformed},
		{`{"type":"array","items":"null"}`, "\x9e\x1f\x00", api.OK},
		{`{"type":"array","items":"null"}`, "\xa0\x1f\x00", api.ErrLimit},
		{`{"type":"array","items":"null"}`, most, api.ErrLimit},
		{`{"type":"array","items":"null"}`, "\x01\x02" + "\x00", api.ErrMalformed},
		{maps, "\x02\x02\xff\x02\x00", api.ErrMalformed},
		{maps, "\x02\x01", api.ErrMalformed},
		{maps, "\x02" + text, api.ErrLimit},
		{maps, strings.Repeat("\x02\x00\x02", 1999) + "\x00", api.OK},
		{maps, strings.Repeat("\x02\x00\x02", 2000) + "\x00", api.ErrLimit},
		{maps, strings.Repeat("\x02\x00\x02", 1999) + "\x02\x01", api.ErrMalformed},
		{`{"type":"record","name":"R","fields":[{"name":"a","type":"R"}]}`, "", api.ErrLimit},
		{record, strings.Repeat("\x02\x02", 8) + "\x02\x00", api.OK},
		{record, strings.Repeat("\x02\x02", 9) + "\x02\x00", api.ErrLimit},
		{record, strings.Repeat("\x02\x02", 10), api.ErrLimit},
		{record, strings.Repeat("\x02\x02", 9), api.ErrMalformed},
	} {
		v, n, e := Decode(from(t, x.s), 0, []byte(x.b))
		if e != x.e || e != api.OK && (n != 0 || !reflect.DeepEqual(v, api.AVal{})) {
			t.Errorf("%s %.30x: %v %d %d, not %d", x.s, x.b, v, n, e, x.e)
		}
	}
	s := from(t, `"int"`)
	for _, i := range []int{-1, 1} {
		if _, _, e := Decode(s, i, nil); e != api.ErrArg {
			t.Errorf("of no type: %d", e)
		}
	}
}

// R1: schemas that may not be.
func TestOddSchemas(t *testing.T) {
	for _, s := range []api.ASchema{
		{Types: []api.AType{{}}},
		{Types: []api.AType{{Kind: 15}}},
		{Types: []api.AType{{Kind: api.AFixed, Size: -1}}},
		{Types: []api.AType{{Kind: api.AFixed, Size: 1 << 62}}},
		{Types: []api.AType{{Kind: api.AArray, Items: 0}}},
		{Types: []api.AType{{Kind: api.AMap, Items: -1}}},
		{Types: []api.AType{{Kind: api.AUnion, Branches: []int{0}}}},
		{Types: []api.AType{{Kind: api.ARecord, Fields: []api.AField{{Type: 9}}}}},
	} {
		for _, b := range []string{"", "\x00", strings.Repeat("\x02", 99), strings.Repeat("\x00", 99)} {
			Decode(s, 0, []byte(b))
		}
	}
}
