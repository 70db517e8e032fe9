package path

import (
	"fmt"
	"math/rand"
	"strings"
	"testing"

	"proclitic/api"
	"proclitic/pname"
	"proclitic/prule"
)

// mask writes a mask: names, those that are Whole with a * behind, others with their Sub.
func mask(names string, subs ...api.Mask) api.Mask {
	var m api.Mask
	for _, name := range strings.Fields(names) {
		name, whole := strings.CutSuffix(name, "*")
		sub := api.Mask{}
		if !whole {
			sub, subs = subs[0], subs[1:]
		}
		m.Names, m.Whole, m.Subs = append(m.Names, name), append(m.Whole, whole), append(m.Subs, sub)
	}
	return m
}

func many(n int, form string) string {
	var l []string
	for i := range n {
		l = append(l, strings.ReplaceAll(form, "#", fmt.Sprint(i)))
	}
	return strings.Join(l, ",")
}

func deep(n int) string { return strings.TrimSuffix(strings.Repeat("a.", n), ".") }

// P25.1
func TestParse(t *testing.T) {
	for s, x := range map[string]struct {
		m    api.Mask
		text string
	}{
		"":                   {api.Mask{}, ""},
		"a":                  {mask("a*"), "a"},
		"b,a":                {mask("a* b*"), "a,b"},
		"a,a":                {mask("a*"), "a"},
		"a.b,a":              {mask("a*"), "a"},
		"a,a.b.c,b":          {mask("a* b*"), "a,b"},
		"a.c,b,a.b.c,a.b.d":  {mask("a b*", mask("b c*", mask("c* d*"))), "a.b.c,a.b.d,a.c,b"},
		"a.b.c,a.b":          {mask("a", mask("b*")), "a.b"},
		"B,a,_,A1,ab":        {mask("A1* B* _* a* ab*"), "A1,B,_,a,ab"},
		"a.b,aa.b,a_.b,a.aa": {mask("a a_ aa", mask("aa* b*"), mask("b*"), mask("b*")), "a.aa,a.b,a_.b,aa.b"},
	} {
		m, e := Parse(s)
		if e != api.OK || !Same(m, x.m) || !May(m) || Text(m) != x.text {
			t.Errorf("%s: %v %d %s", s, m, e, Text(m))
		}
		if back, e := Parse(Text(m)); e != api.OK || !Same(back, m) {
			t.Errorf("%s: %v", s, back)
		}
	}
}

// P25.1
func TestParseErrors(t *testing.T) {
	for s, want := range map[string]api.Errno{
		",":                                   api.ErrMask,
		"a,":                                  api.ErrMask,
		",a":                                  api.ErrMask,
		"a,,b":                                api.ErrMask,
		"a.":                                  api.ErrMask,
		".a":                                  api.ErrMask,
		"a..b":                                api.ErrMask,
		".":                                   api.ErrMask,
		" a":                                  api.ErrMask,
		"a b":                                 api.ErrMask,
		"1a":                                  api.ErrMask,
		"a.1":                                 api.ErrMask,
		"a,b-c":                               api.ErrMask,
		"é":                                   api.ErrMask,
		"a\n":                                 api.ErrMask,
		many(20, "a#"):                        api.OK,
		many(21, "a#"):                        api.ErrLimit,
		many(21, "a"):                         api.ErrLimit,
		deep(20):                              api.OK,
		deep(21):                              api.ErrLimit,
		many(21, "#"):                         api.ErrLimit,
		strings.Repeat("a", 2*api.MaxBytes):   api.OK,
		strings.Repeat("a", 2*api.MaxBytes+1): api.ErrLimit,
		strings.Repeat("-", 2*api.MaxBytes+1): api.ErrLimit,
	} {
		if m, e := Parse(s); e != want || e != api.OK && len(m.Names) != 0 {
			t.Errorf("%.40s: %v %d, not %d", s, m, e, want)
		}
	}
}

// P25.1
func TestMay(t *testing.T) {
	nested := func(n int) api.Mask {
		m := mask("a*")
		for range n - 1 {
			m = mask("a", m)
		}
		return m
	}
	for _, m := range []api.Mask{{}, mask("a* b*"), nested(20), {Names: []string{}, Whole: []bool{}}} {
		if !May(m) {
			t.Errorf("%v", m)
		}
	}
	for i, m := range []api.Mask{
		nested(21),
		mask("b* a*"),
		mask("a* a*"),
		mask("a", api.Mask{}),
		mask("a", mask("b", api.Mask{})),
		mask("1*"),
		mask("a.b*"),
		{Names: []string{""}, Whole: []bool{true}, Subs: []api.Mask{{}}},
		{Names: []string{"a"}, Whole: []bool{true}, Subs: []api.Mask{mask("b*")}},
		{Names: []string{"a"}, Whole: []bool{true}},
		{Names: []string{"a"}, Subs: []api.Mask{{}}},
		{Whole: []bool{true}, Subs: []api.Mask{{}}},
		{Subs: []api.Mask{{}}},
	} {
		if May(m) {
			t.Errorf("%d: %v", i, m)
		}
		Text(m)
		Sub(m, "a")
		if Valid(api.PSchema{Messages: []api.PMessage{{Name: "M"}}}, "M", m) {
			t.Errorf("%d: valid", i)
		}
	}
}

// P25.1
func TestSubAndSame(t *testing.T) {
	m := mask("a b*", mask("c*"))
	if whole, sub, is := Sub(m, "a"); whole || !is || !Same(sub, mask("c*")) {
		t.Errorf("%v %v %v", whole, sub, is)
	} else {
		sub.Names[0] = "x"
		sub.Whole[0] = false
		if m.Subs[0].Names[0] != "c" || !m.Subs[0].Whole[0] {
			t.Error("what is told is the argument's memory")
		}
	}
	if whole, sub, is := Sub(m, "b"); !whole || !is || !Same(sub, api.Mask{}) {
		t.Errorf("%v %v %v", whole, sub, is)
	}
	if whole, sub, is := Sub(m, "c"); whole || is || !Same(sub, api.Mask{}) {
		t.Errorf("%v %v %v", whole, sub, is)
	}
	l := []api.Mask{{}, mask("a*"), mask("b*"), mask("a* b*"), mask("a", mask("b*")), mask("a", mask("c*")), mask("a", mask("b", mask("c*")))}
	for i, a := range l {
		for k, b := range l {
			if Same(a, b) != (i == k) {
				t.Errorf("%v, %v", a, b)
			}
		}
	}
	if !Same(api.Mask{Names: []string{}}, api.Mask{}) {
		t.Error("nil and an empty list are one")
	}
}

// P25.2
func TestValid(t *testing.T) {
	files, _, _, _ := pname.Load([]api.Source{{Name: "a", Text: `syntax = "proto3";
		message M { int32 i = 1; M m = 2; optional N n = 3; repeated M r = 4; map<int32, M> p = 5; oneof o { N on = 6; string os = 7; } } message N { M m = 1; bytes b = 2; }`}})
	s, e, _ := prule.Schema(files)
	if e != api.OK {
		t.Fatal(e)
	}
	for text, want := range map[string]bool{
		"":                  true,
		"i,m,n,r,p,on,os":   true,
		"m.m.n.m.i":         true,
		"n.b,on.m.on.b,m.i": true,
		"x":                 false,
		"o":                 false,
		"i.x":               false,
		"os.x":              false,
		"r.i":               false,
		"p.i":               false,
		"m.x":               false,
		"m.m.b":             false,
		"n.i":               false,
		"i,x":               false,
	} {
		m, e := Parse(text)
		if e != api.OK || Valid(s, "M", m) != want {
			t.Errorf("%s: not %v", text, want)
		}
	}
	if Valid(s, "X", api.Mask{}) || !Valid(s, "N", mask("b*")) {
		t.Error("of which message?")
	}
}

// P25.1: what is told is parsed as it was.
func TestToAndFro(t *testing.T) {
	r := rand.New(rand.NewSource(1))
	for range 3000 {
		var paths []string
		for range 1 + r.Intn(8) {
			var names []string
			for range 1 + r.Intn(4) {
				names = append(names, string("abAB"[r.Intn(4)]))
			}
			paths = append(paths, strings.Join(names, "."))
		}
		m, e := Parse(strings.Join(paths, ","))
		if e != api.OK || !May(m) {
			t.Fatalf("%v: %d", paths, e)
		}
		back, e := Parse(Text(m))
		if e != api.OK || !Same(back, m) {
			t.Fatalf("%v: %s", paths, Text(m))
		}
		r.Shuffle(len(paths), func(i, k int) { paths[i], paths[k] = paths[k], paths[i] })
		if other, _ := Parse(strings.Join(paths, ",")); !Same(other, m) {
			t.Fatalf("%v in another order", paths)
		}
	}
}
