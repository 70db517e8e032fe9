package splice

import (
	"slices"
	"strings"
	"testing"

	"proclitic/api"
	"proclitic/path"
	"proclitic/pname"
	"proclitic/prule"
	"proclitic/rec"
)

const text1 = `syntax = "proto3";
message M { int32 i = 1; string s = 2; M m = 3; optional int32 oi = 4; repeated int32 r = 5; map<int32, string> p = 6; repeated M rm = 7;
  oneof one { int32 a = 11; string b = 12; M c = 13; M d = 14; } oneof two { int32 e = 15; int32 f = 16; } }`

func schema(t *testing.T) api.PSchema {
	files, e, _, at := pname.Load([]api.Source{{Name: "a", Text: text1}})
	if e != api.OK {
		t.Fatalf("%d %d", e, at)
	}
	s, e, whole := prule.Schema(files)
	if e != api.OK {
		t.Fatalf("%d %s", e, whole)
	}
	return s
}

func mask(t *testing.T, text string) api.Mask {
	m, e := path.Parse(text)
	if e != api.OK {
		t.Fatalf("%s: %d", text, e)
	}
	return m
}

func num(k int, v uint64) string { return rec.Put(api.Record{Num: k, N: v}) }
func str(k int, l ...string) string {
	return rec.Put(api.Record{Num: k, Wire: api.WireText, S: strings.Join(l, "")})
}

// P27.1
func TestLive(t *testing.T) {
	p, _ := prule.Message(schema(t), "M")
	for _, x := range []struct{ b, want string }{
		{"", ""},
		{num(1, 1) + num(1, 2) + num(9, 1) + str(1, "a") + str(5, "\x01") + num(5, 1) + num(6, 1), num(1, 1) + num(1, 2) + str(5, "\x01") + num(5, 1)},
		{num(11, 1) + num(11, 2), num(11, 1) + num(11, 2)},
		{num(11, 1) + str(12, "a"), str(12, "a")},
		{num(11, 1) + str(12, "a") + num(11, 2) + num(1, 1) + num(11, 3), num(11, 2) + num(1, 1) + num(11, 3)},
		{str(13, "") + num(11, 1) + str(13, "") + num(12, 5) + str(13, ""), str(13, "") + str(13, "")},
		{num(11, 1) + num(15, 1) + str(12, "a") + num(16, 1) + num(16, 2), str(12, "a") + num(16, 1) + num(16, 2)},
		{num(11, 1) + num(12, 1), num(11, 1)},
	} {
		l, e := rec.Split(x.b)
		if e != api.OK {
			t.Fatal(e)
		}
		before := slices.Clone(l)
		if got := rec.Join(Live(p, l)); got != x.want || !slices.Equal(l, before) {
			t.Errorf("%x: %x, not %x", x.b, got, x.want)
		}
	}
}

// P27.1
func TestProject(t *testing.T) {
	s := schema(t)
	for i, x := range []struct{ mask, b, want string }{
		{"", num(1, 1) + num(9, 1), ""},
		{"i", num(1, 1) + num(9, 1) + "\x88\x00\x82\x00" + str(1, "a") + str(2, "x"), num(1, 1) + "\x88\x00\x82\x00"},
		{"i", num(1, 0), num(1, 0)},
		{"s,i", num(1, 1) + str(2, "x") + num(1, 2), num(1, 1) + str(2, "x") + num(1, 2)},
		{"r,p", num(5, 1) + str(6, num(1, 1)) + str(5, "\x02") + num(1, 1), num(5, 1) + str(6, num(1, 1)) + str(5, "\x02")},
		{"m", str(3, num(1, 1), num(9, 1)) + str(3, num(9, 1)), str(3, num(1, 1), num(9, 1)) + str(3, num(9, 1))},
		{"m.i", str(3, num(1, 1), num(9, 1)), str(3, num(1, 1))},
		{"m.i", str(3, num(9, 1)), str(3)},
		{"m.i,s", str(2, "a") + str(3, num(1, 1), str(2, "x")) + str(2, "b") + str(3, num(1, 2)) + str(2, "c"), str(2, "a") + str(3, num(1, 1), num(1, 2)) + str(2, "b") + str(2, "c")},
		{"m.m.i", str(3, str(3, num(1, 1))) + str(3, str(3, num(1, 2)), num(1, 7)), str(3, str(3, num(1, 1), num(1, 2)))},
		{"m.m.i", num(1, 1), ""},
		{"m.i", "\x9a\x00\x82\x00\x08\x01", str(3, num(1, 1))},
		{"a", num(11, 1) + str(12, "a"), ""},
		{"a,b", num(11, 1) + str(12, "a"), str(12, "a")},
		{"c.i", str(13, num(1, 1)) + str(14) + str(13, num(1, 2)), str(13, num(1, 2))},
		{"c.i", str(13, num(1, 1)) + str(14), ""},
		{"m.a", str(3, num(11, 1)) + str(3, str(12, "x")), str(3)},
		{"m.b", str(3, num(11, 1)) + str(3, str(12, "x")), str(3, str(12, "x"))},
	} {
		got, e := Project(s, "M", mask(t, x.mask), []byte(x.b))
		if e != api.OK || string(got) != x.want {
			t.Errorf("%d: %s %x: %x %d, not %x", i, x.mask, x.b, got, e, x.want)
		}
	}
	for _, x := range []struct {
		name, mask, b string
		e             api.Errno
	}{
		{"M", "x", "\x00", api.ErrMask},
		{"M", "r.i", "\x00", api.ErrMask},
		{"X", "", "\x00", api.ErrMask},
		{"M", "", "\x00", api.ErrMalformed},
		{"M", "i", str(2, "\xff"), api.ErrMalformed},
		{"M", "i", str(3, str(2, "\xff")), api.ErrMalformed},
		{"M", "i", strings.Repeat(" ", api.MaxBytes+1), api.ErrLimit},
	} {
		if got, e := Project(s, x.name, mask(t, x.mask), []byte(x.b)); e != x.e || got != nil {
			t.Errorf("%v: %x %d", x, got, e)
		}
	}
}

// P27.2
func TestMerge(t *testing.T) {
	s := schema(t)
	for i, x := range []struct{ mask, d, b, want string }{
		{"", num(1, 1) + num(9, 1), num(1, 2), num(1, 1) + num(9, 1)},
		{"i", num(1, 1) + num(9, 1) + num(1, 2) + str(2, "a"), num(1, 3) + num(9, 2) + num(1, 4), num(9, 1) + str(2, "a") + num(1, 3) + num(1, 4)},
		{"i", num(1, 1), "", ""},
		{"i,s,oi", num(1, 1) + str(2, "a") + num(4, 1), str(2, "b"), str(2, "b")},
		{"s,i", str(1, "wrong"), str(2, "b") + num(1, 3), str(1, "wrong") + num(1, 3) + str(2, "b")},
		{"r,p,rm", num(5, 1) + str(6, "") + str(7, ""), str(7, num(1, 1)) + str(5, "\x02") + str(6, num(1, 1)), num(5, 1) + str(6, "") + str(7, "") + str(6, num(1, 1)) + str(5, "\x02") + str(7, num(1, 1))},
		{"r", num(5, 1), "", num(5, 1)},
		{"m", str(3, num(1, 1)), str(3, num(9, 1)), str(3, num(1, 1)) + str(3, num(9, 1))},
		{"m", str(3, num(1, 1)), "", str(3, num(1, 1))},
		{"m.i", str(3, num(1, 1), num(9, 1)) + num(1, 1), "", str(3, num(1, 1), num(9, 1)) + num(1, 1)},
		{"m.i", str(3, num(1, 1), num(9, 1)) + num(1, 1) + str(3, str(2, "x")), str(3, num(1, 2)) + str(3, num(9, 2)), num(1, 1) + str(3, num(9, 1), str(2, "x"), num(1, 2))},
		{"m.i", "", str(3, num(9, 2)), str(3)},
		{"m.i", str(3, num(1, 1)), str(3), str(3)},
		{"m.m.s,m.i", str(3, str(3, str(2, "x"), num(1, 7))), str(3, str(3, str(2, "y")), num(1, 5)), str(3, num(1, 5), str(3, num(1, 7), str(2, "y")))},
		// oneofs
		{"a", num(11, 1) + str(12, "a"), num(11, 2), num(11, 2)},
		{"a", num(11, 1) + str(12, "a"), str(13, ""), str(12, "a")},
		{"a", str(12, "a"), num(11, 2) + str(12, "b"), str(12, "a")},
		{"a,b", str(12, "a"), "", ""},
		{"b", str(13, num(1, 1)) + num(15, 1), str(12, ""), num(15, 1) + str(12, "")},
		{"c", str(13, num(1, 1)), str(13, num(1, 2)), str(13, num(1, 1)) + str(13, num(1, 2))},
		{"c", str(14, num(1, 1)), str(13, num(1, 2)), str(13, num(1, 2))},
		{"c.i", str(14, num(1, 1)), str(13, num(1, 2), num(9, 1)), str(13, num(1, 2))},
		{"c.i,d", str(13, num(1, 1)) + str(14, num(1, 1)) + str(13, num(4, 1)), str(13, num(1, 2)), str(13, num(4, 1), num(1, 2))},
		{"d", str(13, num(1, 1)), str(13, num(1, 2)), str(13, num(1, 1))},
		{"d", str(14, num(1, 1)) + num(11, 1), "", num(11, 1)},
	} {
		got, e := Merge(s, "M", mask(t, x.mask), []byte(x.d), []byte(x.b))
		if e != api.OK || string(got) != x.want {
			t.Errorf("%d: %s %x %x: %x %d, not %x", i, x.mask, x.d, x.b, got, e, x.want)
		}
	}
	half := str(2, strings.Repeat("a", 2600))
	list := str(5, strings.Repeat("\x01", 1900))
	for i, x := range []struct {
		name, mask, d, b string
		e                api.Errno
	}{
		{"M", "x", "\x00", "\x00", api.ErrMask},
		{"X", "", "", "", api.ErrMask},
		{"M", "i", "\x00", strings.Repeat(" ", api.MaxBytes+1), api.ErrMalformed},
		{"M", "i", strings.Repeat(" ", api.MaxBytes+1), "\x00", api.ErrLimit},
		{"M", "i", "", str(2, "\xff"), api.ErrMalformed},
		{"M", "m", str(3, half), str(3, half), api.ErrLimit},
		{"M", "s", half, half, api.OK},
		{"M", "rm", str(2, strings.Repeat("a", api.MaxBytes-5)), str(7), api.OK},
		{"M", "rm", str(2, strings.Repeat("a", api.MaxBytes-4)), str(7), api.ErrLimit},
		{"M", "r", half + list, list, api.ErrLimit},
		{"M", "m.r", str(3, half, list), str(3, list), api.ErrLimit},
	} {
		got, e := Merge(s, x.name, mask(t, x.mask), []byte(x.d), []byte(x.b))
		if e != x.e || e != api.OK && got != nil {
			t.Errorf("%d: %d bytes %d, not %d", i, len(got), e, x.e)
		}
	}
}
