package aenc

import (
	"strings"
	"testing"

	"proclitic/adec"
	"proclitic/api"
	"proclitic/aval"
	"proclitic/avsc"
	"proclitic/json"
)

func from(t *testing.T, s string) api.ASchema {
	n, e := json.Parse(s)
	if e != api.OK {
		t.Fatalf("%s: %d", s, e)
	}
	a, e := avsc.From(n)
	if e != api.OK {
		t.Fatalf("%s: %d", s, e)
	}
	return a
}

func n(v int64) api.AVal            { return api.AVal{N: uint64(v)} }
func tx(s string) api.AVal          { return api.AVal{S: s} }
func in(l ...api.AVal) api.AVal     { return api.AVal{L: l} }
func un(b int, v api.AVal) api.AVal { return api.AVal{Branch: b, L: []api.AVal{v}} }
func mp(keys string, l ...api.AVal) api.AVal {
	return api.AVal{Keys: strings.Split(keys, " "), L: l}
}

const (
	array  = `{"type":"array","items":"int"}`
	maps   = `{"type":"map","values":"int"}`
	enum   = `{"type":"enum","name":"E","symbols":["A","B"]}`
	fixed  = `{"type":"fixed","name":"F","size":2}`
	record = `{"type":"record","name":"R","fields":[{"name":"a","type":"int"},{"name":"b","type":["null","R"]}]}`
)

// P22.1
func TestEncode(t *testing.T) {
	for _, x := range []struct {
		s    string
		v    api.AVal
		want string
	}{
		{`"null"`, api.AVal{}, ""},
		{`"boolean"`, n(1), "\x01"},
		{`"boolean"`, n(0), "\x00"},
		{`"int"`, n(-1), "\x01"},
		{`"int"`, n(64), "\x80\x01"},
		{`"int"`, n(-1 << 31), "\xff\xff\xff\xff\x0f"},
		{`"long"`, n(-1), "\x01"},
		{`"long"`, n(-1 << 63), "\xff\xff\xff\xff\xff\xff\xff\xff\xff\x01"},
		{`"float"`, n(0xff030201), "\x01\x02\x03\xff"},
		{`"double"`, n(-1<<63 + 1), "\x01\x00\x00\x00\x00\x00\x00\x80"},
		{`"bytes"`, tx("\xff\x00"), "\x04\xff\x00"},
		{`"string"`, tx(""), "\x00"},
		{`"string"`, tx("é"), "\x04é"},
		{fixed, tx("\xff\xfe"), "\xff\xfe"},
		{enum, n(1), "\x02"},
		{array, api.AVal{}, "\x00"},
		{array, in(n(1), n(-2)), "\x04\x02\x03\x00"},
		{maps, api.AVal{}, "\x00"},
		{maps, mp(" a", n(1), n(2)), "\x04\x00\x02\x02a\x04\x00"},
		{`["int","null"]`, un(1, n(0)), "\x02"},
		{`["int","null"]`, un(0, n(3)), "\x00\x06"},
		{record, in(n(1), un(1, in(n(2), un(0, n(0))))), "\x02\x02\x04\x00"},
		{`{"type":"array","items":"null"}`, in(n(0), n(0)), "\x04\x00"},
	} {
		s := from(t, x.s)
		b, e := Encode(s, 0, x.v)
		if e != api.OK || string(b) != x.want {
			t.Errorf("%s %v: %x %d", x.s, x.v, b, e)
		}
		if v, n, e := adec.Decode(s, 0, b); e != api.OK || n != len(b) || !aval.Same(v, x.v) {
			t.Errorf("%s %v is decoded as %v %d", x.s, x.v, v, e)
		}
	}
}

// P22.1
func TestEncodeErrors(t *testing.T) {
	long := func(n int) api.AVal { return tx(strings.Repeat("a", n)) }
	for i, x := range []struct {
		s string
		v api.AVal
		e api.Errno
	}{
		{`"int"`, n(1 << 31), api.ErrType},
		{`"string"`, tx("\xff"), api.ErrType},
		{`["int"]`, un(1, n(0)), api.ErrType},
		{record, in(n(1)), api.ErrType},
		{maps, mp("b a", n(1), n(1)), api.ErrType},
		{`"string"`, long(api.MaxBytes - 2), api.OK},
		{`"string"`, long(api.MaxBytes - 1), api.ErrLimit},
		{`{"type":"array","items":"string"}`, in(long(api.MaxBytes - 4)), api.OK},
		{`{"type":"array","items":"string"}`, in(long(api.MaxBytes - 3)), api.ErrLimit},
		{`{"type":"array","items":"string"}`, in(long(api.MaxBytes), long(1)), api.ErrLimit},
		{`{"type":"array","items":"string"}`, in(long(api.MaxBytes), tx("\xff")), api.ErrType},
		{`{"type":"map","values":"null"}`, api.AVal{Keys: []string{strings.Repeat("a", api.MaxBytes)}, L: []api.AVal{{}}}, api.ErrLimit},
	} {
		b, e := Encode(from(t, x.s), 0, x.v)
		if e != x.e || e != api.OK && b != nil {
			t.Errorf("%d: %d bytes %d", i, len(b), e)
		}
	}
	s := from(t, `"int"`)
	for _, i := range []int{-1, 1} {
		if b, e := Encode(s, i, tx("a")); e != api.ErrArg || b != nil {
			t.Errorf("of no type: %d", e)
		}
	}
}

// P22.1
func TestBytesBehindAreCounted(t *testing.T) {
	head := func(behind string) string {
		return `{"type":"record","name":"H","fields":[{"name":"f","type":"bytes"},{"name":"g","type":` + behind + `}]}`
	}
	none := `{"type":"record","name":"E","fields":[]}`
	rest := `{"type":"record","name":"S","fields":[{"name":"h","type":[` + none + `,"S"]}]}`
	deep := un(0, api.AVal{})
	for range 9 {
		deep = un(1, in(deep))
	}
	for i, x := range []struct {
		behind string
		v      api.AVal
		bytes  int
	}{
		{none, api.AVal{}, 0},
		{`"null"`, api.AVal{}, 0},
		{`{"type":"fixed","name":"F","size":0}`, tx(""), 0},
		{`["null"]`, un(0, api.AVal{}), 1},
		{`[` + none + `]`, un(0, api.AVal{}), 1},
		{`["null",{"type":"fixed","name":"F","size":0}]`, un(1, tx("")), 1},
		{rest, in(deep), 10},
		{`{"type":"array","items":` + none + `}`, api.AVal{}, 1},
		{`{"type":"array","items":` + none + `}`, in(api.AVal{}, api.AVal{}), 2},
		{`{"type":"array","items":[` + none + `]}`, in(un(0, api.AVal{}), un(0, api.AVal{})), 4},
		{`{"type":"map","values":` + none + `}`, mp("a bc", api.AVal{}, api.AVal{}), 7},
		{`["null",{"type":"array","items":"null"}]`, un(1, api.AVal{}), 2},
		{`"boolean"`, n(1), 1},
		{`"long"`, n(-1 << 63), 10},
		{`"double"`, n(1), 8},
	} {
		s := from(t, head(x.behind))
		// A text of so many bytes has two bytes ahead that say how many.
		full := api.MaxBytes - 2 - x.bytes
		v := func(size int) api.AVal { return in(tx(strings.Repeat("a", size)), x.v) }
		if b, e := Encode(s, 0, v(full)); e != api.OK || len(b) != api.MaxBytes {
			t.Errorf("%d: %d bytes %d", i, len(b), e)
		}
		if b, e := Encode(s, 0, v(full+1)); e != api.ErrLimit || b != nil {
			t.Errorf("%d: one more: %d bytes %d", i, len(b), e)
		}
	}
}
