package theorems

import (
	"fmt"
	"math/rand"
	"slices"
	"strings"
	"testing"

	"proclitic/acomp"
	"proclitic/adec"
	"proclitic/adef"
	"proclitic/aenc"
	"proclitic/api"
	"proclitic/ares"
	"proclitic/aval"
	"proclitic/avsc"
	"proclitic/born"
	"proclitic/canon"
	"proclitic/cross"
	"proclitic/json"
	"proclitic/rec"
	"proclitic/tojson"
)

// namer writes types with names that are not used yet.
type namer struct {
	r    *rand.Rand
	used []string
}

var plainTypes = strings.Fields("null boolean int long float double bytes string")

// typ writes a type.
func (k *namer) typ(depth int) string {
	if depth > 3 || k.r.Intn(3) == 0 {
		return `"` + one(k.r, plainTypes...) + `"`
	}
	switch k.r.Intn(8) {
	case 0:
		return `{"type":"array","items":` + k.typ(depth+1) + `}`
	case 1:
		return `{"type":"map","values":` + k.typ(depth+1) + `}`
	case 2:
		return k.union(depth)
	case 3:
		return k.named(`"fixed"`, fmt.Sprintf(`"size":%d`, k.r.Intn(3)), "")
	case 4:
		def := one(k.r, "", `,"default":"A"`)
		syms := one(k.r, `"A"`, `"A","B"`, `"B","A","C"`)
		return k.named(`"enum"`, `"symbols":[`+syms+`]`+def, "")
	case 5:
		if len(k.used) > 0 {
			return `"` + one(k.r, k.used...) + `"`
		}
	}
	return k.record(depth)
}

// named writes a named type; aliases are other names.
func (k *namer) named(kind, parts, name string) string {
	if name == "" {
		name = k.name()
	}
	alias := one(k.r, "", "", `,"aliases":["`+one(k.r, "A1", "A2", "B1", "B2")+`"]`)
	return fmt.Sprintf(`{"type":%s,"name":"%s"%s,%s}`, kind, name, alias, parts)
}

func (k *namer) name() string {
	for i := 1; ; i++ {
		name := fmt.Sprintf("%s%d", one(k.r, "A", "B"), i)
		if !slices.Contains(k.used, name) {
			k.used = append(k.used, name)
			return name
		}
	}
}

func (k *namer) record(depth int) string {
	name := k.name()
	var l []string
	for i := range k.r.Intn(4) {
		field := fmt.Sprintf(`{"name":"f%d","type":%s`, i, k.typ(depth+1))
		field += one(k.r, "", "", `,"aliases":["f`+fmt.Sprint(k.r.Intn(4))+`"]`)
		field += one(k.r, "", "", `,"default":null`, `,"default":1`, `,"default":""`, `,"default":[]`, `,"default":{}`)
		l = append(l, field+"}")
	}
	return k.named(`"record"`, `"fields":[`+strings.Join(l, ",")+`]`, name)
}

func (k *namer) union(depth int) string {
	var l []string
	for range 1 + k.r.Intn(3) {
		x := k.typ(depth + 1)
		if x[0] != '[' && !slices.Contains(l, x) {
			l = append(l, x)
		}
	}
	return "[" + strings.Join(l, ",") + "]"
}

// avroSchema makes up a schema whose defaults are right.
func avroSchema(r *rand.Rand) (api.ASchema, string) {
	for {
		text := (&namer{r: r}).typ(0)
		n, e := json.Parse(text)
		if e != api.OK {
			continue
		}
		s, e := avsc.From(n)
		if e != api.OK {
			continue
		}
		if e, _, _ := adef.Check(s); e == api.OK {
			return s, text
		}
	}
}

// changedAvro tells a schema that another one may have become.
func changedAvro(r *rand.Rand, text string) api.ASchema {
	s, _ := changedText(r, text)
	return s
}

// changedText tells it with its text.
func changedText(r *rand.Rand, text string) (api.ASchema, string) {
	for range 20 {
		out := text
		for range 1 + r.Intn(3) {
			a := one(r, `"int"`, `"long"`, `"float"`, `"string"`, `"A","B"`, `"f1"`, `,"default":1`, `"null"`, `"size":1`, `["int"`, `"A1"`)
			b := one(r, `"long"`, `"double"`, `"bytes"`, `"A"`, `"f9"`, ``, `["null","int"]`, `"size":2`, `["null","int"`, `"C1"`, `"int"`)
			out = strings.Replace(out, a, b, 1+r.Intn(2))
		}
		n, e := json.Parse(out)
		if e != api.OK {
			continue
		}
		s, e := avsc.From(n)
		if e != api.OK {
			continue
		}
		if e, _, _ := adef.Check(s); e == api.OK {
			return s, out
		}
	}
	return avroSchema(r)
}

// avroValue makes up a value of a type that has one.
func avroValue(r *rand.Rand, s api.ASchema, has []bool, t, depth int) api.AVal {
	if depth > 5 {
		v, _ := born.Least(s, t)
		return v
	}
	switch a := s.Types[t]; a.Kind {
	case api.ABool:
		return api.AVal{N: uint64(r.Intn(2))}
	case api.AInt:
		return api.AVal{N: uint64(int64(int32(r.Uint32())) >> r.Intn(32))}
	case api.ALong, api.ADouble:
		return api.AVal{N: uint64(int64(r.Uint64()) >> r.Intn(64))}
	case api.AFloat:
		return api.AVal{N: uint64(r.Uint32())}
	case api.ABytes:
		return api.AVal{S: one(r, "", "\xff", "ab")}
	case api.AString:
		return api.AVal{S: one(r, "", "é", "ab")}
	case api.AFixed:
		return api.AVal{S: strings.Repeat("\xfe", a.Size)}
	case api.AEnum:
		return api.AVal{N: uint64(r.Intn(len(a.Syms)))}
	case api.AArray, api.AMap:
		var v api.AVal
		if !has[a.Items] {
			return v
		}
		for i := range r.Intn(3) {
			v.L = append(v.L, avroValue(r, s, has, a.Items, depth+1))
			if a.Kind == api.AMap {
				v.Keys = append(v.Keys, string("abc"[i]))
			}
		}
		return v
	case api.AUnion:
		for {
			i := r.Intn(len(a.Branches))
			if has[a.Branches[i]] {
				return api.AVal{Branch: i, L: []api.AVal{avroValue(r, s, has, a.Branches[i], depth+1)}}
			}
		}
	case api.ARecord:
		var v api.AVal
		for _, f := range a.Fields {
			v.L = append(v.L, avroValue(r, s, has, f.Type, depth+1))
		}
		return v
	}
	return api.AVal{}
}

// inBlocks writes a value in blocks of any sizes.
func inBlocks(r *rand.Rand, s api.ASchema, t int, v api.AVal) string {
	long := func(n int) string { return rec.PutVarint(uint64(n)<<1 ^ uint64(int64(n)>>63)) }
	switch a := s.Types[t]; a.Kind {
	case api.AArray, api.AMap:
		out := ""
		for i := 0; i < len(v.L); {
			n := 1 + r.Intn(len(v.L)-i)
			items := ""
			for range n {
				if a.Kind == api.AMap {
					items += long(len(v.Keys[i])) + v.Keys[i]
				}
				items += inBlocks(r, s, a.Items, v.L[i])
				i++
			}
			if r.Intn(2) == 0 {
				out += long(-n) + long(len(items)) + items
			} else {
				out += long(n) + items
			}
		}
		return out + long(0)
	case api.AUnion:
		return long(v.Branch) + inBlocks(r, s, a.Branches[v.Branch], v.L[0])
	case api.ARecord:
		out := ""
		for i, f := range a.Fields {
			out += inBlocks(r, s, f.Type, v.L[i])
		}
		return out
	}
	b, _ := aenc.Encode(s, t, v)
	return string(b)
}

// W1, W4: values of schemas, there and back.
func TestAvroToAndFro(t *testing.T) {
	r := rand.New(rand.NewSource(11))
	none := 0
	for range 3000 {
		s, text := avroSchema(r)
		said := canon.Text(s)
		n, e := json.Parse(said)
		if e != api.OK {
			t.Fatalf("%s: %s: %d", text, said, e)
		}
		if back, e := avsc.From(n); e != api.OK || canon.Text(back) != said {
			t.Fatalf("%s: %s: %d %s", text, said, e, canon.Text(back))
		}
		has := born.Has(s)
		least, is := born.Least(s, 0)
		if is != has[0] || is && !aval.Fits(s, 0, least) {
			t.Fatalf("%s: %v", text, least)
		}
		if !has[0] {
			none++
			continue
		}
		v := avroValue(r, s, has, 0, 0)
		carriedAvro(t, s, v)
		b := inBlocks(r, s, 0, v)
		if got, k, e := adec.Decode(s, 0, []byte(b)); e != api.OK || k != len(b) || !aval.Same(got, v) {
			t.Fatalf("%s: %x: %v %d", text, b, got, e)
		}
	}
	if none == 0 {
		t.Error("each type has a value")
	}
}

// carriedAvro tests that v is encoded and told, and both back.
func carriedAvro(t *testing.T, s api.ASchema, v api.AVal) {
	t.Helper()
	if !aval.Fits(s, 0, v) {
		t.Fatalf("%s: %v does not fit", canon.Text(s), v)
	}
	b, e := aenc.Encode(s, 0, v)
	if e != api.OK {
		t.Fatalf("%s: %v: %d", canon.Text(s), v, e)
	}
	depth, count := aval.Size(v)
	back, n, e := adec.Decode(s, 0, b)
	if depth+1 > api.MaxDepth || count > api.MaxNodes {
		if e != api.ErrLimit {
			t.Fatalf("%d deep, %d values: %d", depth, count, e)
		}
		return
	}
	if e != api.OK || n != len(b) || !aval.Same(back, v) {
		t.Fatalf("%s: %x: %v %d", canon.Text(s), b, back, e)
	}
	tree, e := tojson.Avro(s, 0, v)
	if e != api.OK {
		t.Fatalf("%s: %v: %d", canon.Text(s), v, e)
	}
	if back, e := tojson.FromAvro(s, 0, tree); e != api.OK || !aval.Same(back, v) {
		t.Fatalf("%s: %s: %v %d", canon.Text(s), json.Print(tree), back, e)
	}
}

// carried tests it of a value that was a message.
func carried(t *testing.T, s api.PSchema, v api.AVal) {
	t.Helper()
	a, e := cross.Schema(s, "M0")
	if e != api.OK {
		t.Fatal(e)
	}
	carriedAvro(t, a, v)
}

// W1: a schema is said to be read just if each value of it is resolved.
func TestResolving(t *testing.T) {
	r := rand.New(rand.NewSource(12))
	read, not, quiet := 0, 0, 0
	for range 6000 {
		w, text := avroSchema(r)
		rd := changedAvro(r, text)
		says := acomp.Check(w, rd, 0, 0)
		has := born.Has(w)
		if !has[0] {
			if !says {
				t.Fatalf("%s: has no value, and is not read", text)
			}
			continue
		}
		failed := false
		for range 30 {
			v := avroValue(r, w, has, 0, 0)
			x, e := ares.Resolve(w, rd, 0, 0, v)
			if e != api.OK && says {
				t.Fatalf("%s as %s: %v is not resolved: %d", canon.Text(w), canon.Text(rd), v, e)
			}
			failed = failed || e != api.OK
			if e == api.OK && !aval.Fits(rd, 0, x) {
				t.Fatalf("%s as %s: %v: %v", canon.Text(w), canon.Text(rd), v, x)
			}
		}
		switch {
		case says:
			read++
		case failed:
			not++
		default:
			quiet++
			if quiet > 40 {
				t.Fatalf("%s as %s: no value is seen that is not resolved", canon.Text(w), canon.Text(rd))
			}
		}
	}
	if read < 500 || not < 150 {
		t.Errorf("%d are read, %d not", read, not)
	}
	t.Logf("%d are read, %d not, of %d nothing is seen", read, not, quiet)
}
