package theorems

import (
	"fmt"
	"math"
	"math/rand"
	"reflect"
	"testing"

	"proclitic/acomp"
	"proclitic/adec"
	"proclitic/adef"
	"proclitic/aenc"
	"proclitic/api"
	"proclitic/ares"
	"proclitic/aval"
	"proclitic/avsc"
	"proclitic/born"
	"proclitic/canon"
	"proclitic/cast"
	"proclitic/cross"
	"proclitic/desk"
	"proclitic/finger"
	"proclitic/glyph"
	"proclitic/json"
	"proclitic/mtree"
	"proclitic/path"
	"proclitic/pcomp"
	"proclitic/pdec"
	"proclitic/penc"
	"proclitic/pfile"
	"proclitic/pname"
	"proclitic/pread"
	"proclitic/prule"
	"proclitic/pval"
	"proclitic/rec"
	"proclitic/sixty"
	"proclitic/splice"
	"proclitic/tojson"
	"proclitic/word"
)

// fill fills a value with anything; numbers are mostly small, so that some of them stand for something.
func fill(r *rand.Rand, v reflect.Value, depth int) {
	switch v.Kind() {
	case reflect.Int, reflect.Int64:
		v.SetInt(one(r, int64(r.Intn(4)), int64(r.Intn(19)), int64(r.Intn(19)), -1, 20000, math.MaxInt64, math.MinInt64))
	case reflect.Uint64, reflect.Uint32:
		v.SetUint(one(r, uint64(r.Intn(3)), uint64(r.Intn(30)), r.Uint64()>>r.Intn(64)))
	case reflect.Uint8:
		v.SetUint(uint64(one(r, r.Intn(32), r.Intn(256))))
	case reflect.Bool:
		v.SetBool(r.Intn(2) == 0)
	case reflect.String:
		v.SetString(one(r, "", "a", "a", "a", "a", "a", "M", "\xff", "a.b", ".", "int", "record", "\x08\x01", "\x0a\x02\x08\x01", "null", "1", "union", "type", "int32", "a"))
	case reflect.Slice:
		n := r.Intn(4)
		if depth > 4 {
			n = 0
		}
		v.Set(reflect.MakeSlice(v.Type(), n, n+r.Intn(2)))
		for i := range n {
			fill(r, v.Index(i), depth+1)
		}
	case reflect.Array:
		for i := range v.Len() {
			fill(r, v.Index(i), depth)
		}
	case reflect.Struct:
		for i := range v.NumField() {
			fill(r, v.Field(i), depth+1)
		}
	}
}

// everything tells all functions of all layers.
func everything() []any {
	return []any{
		rec.Varint, rec.PutVarint, rec.Split, rec.Put, rec.Join, cast.Wire, cast.From, cast.To, cast.Fits, cast.Double, cast.Float, cast.Widen,
		glyph.Valid, glyph.Quote, glyph.Unquote, glyph.Put, sixty.Put, sixty.Take, finger.Of, finger.Text,
		json.Parse, json.Print, json.Same, json.Get, json.May, word.Lex, pfile.Parse, pfile.Kind, pfile.Plain,
		pname.Load, pname.Whole, pname.Find, prule.Schema, prule.Message, prule.Enum, prule.Field, prule.Named,
		avsc.From, avsc.Short, avsc.Tag, canon.Text, canon.Print, born.Has, born.Least, adef.Value, adef.Check,
		pval.Fits, pval.Known, pval.Get, pval.Cmp, pval.Merge, pval.Same, pval.Size, pdec.Decode, penc.Encode, pcomp.Kinds, pcomp.Reads, pread.Read,
		aval.Fits, aval.Same, aval.Size, adec.Decode, aenc.Encode, acomp.Match, acomp.Check, ares.Resolve,
		path.Parse, path.Text, path.Valid, path.Sub, path.Same, path.May, mtree.Project, mtree.Merge,
		splice.Project, splice.Merge, splice.Live, tojson.Proto, tojson.FromProto, tojson.Avro, tojson.FromAvro, cross.Schema, cross.To, cross.Back,
		desk.New().Ask, desk.New().Names, desk.New().Print, desk.New().Copy,
	}
}

// R1, R3: every call ends, none panics, and none changes what is handed in.
func TestAnything(t *testing.T) {
	r := rand.New(rand.NewSource(21))
	for range 500 {
		for _, call := range everything() {
			f := reflect.ValueOf(call)
			var in []reflect.Value
			for k := range f.Type().NumIn() {
				x := reflect.New(f.Type().In(k)).Elem()
				fill(r, x, 0)
				in = append(in, x)
			}
			try(t, f, in)
		}
	}
}

// try calls f, which must not panic and must leave what is handed in.
func try(t *testing.T, f reflect.Value, in []reflect.Value) {
	t.Helper()
	before := text(in)
	defer func() {
		if x := recover(); x != nil {
			t.Fatalf("%v of %s: %v", f.Type(), before, x)
		}
	}()
	f.Call(in)
	if after := text(in); after != before {
		t.Fatalf("%v: %s has become %s", f.Type(), before, after)
	}
}

// spoil puts something else somewhere in a value.
func spoil(r *rand.Rand, v reflect.Value) {
	switch v.Kind() {
	case reflect.Slice:
		if v.Len() == 0 || r.Intn(8) == 0 {
			fill(r, v, 3)
			return
		}
		spoil(r, v.Index(r.Intn(v.Len())))
	case reflect.Struct:
		if v.NumField() > 0 {
			spoil(r, v.Field(r.Intn(v.NumField())))
		}
	default:
		fill(r, v, 3)
	}
}

// R1, R3: of schemas and values that are nearly right, too.
func TestNearlyRight(t *testing.T) {
	r := rand.New(rand.NewSource(22))
	for range 600 {
		s, avro := avroSchema(r)
		var v api.AVal
		if has := born.Has(s); has[0] {
			v = avroValue(r, s, has, 0, 0)
		}
		p, n := protoPair(t, r)
		kinds := protoText(r, words)
		m, d := message(r, p, "M0", 2), message(r, p, "M0", 2)
		b, _ := penc.Encode(p, "M0", m)
		c, _ := aenc.Encode(s, 0, v)
		tree, _ := tojson.Proto(p, "M0", m)
		more, _ := tojson.Avro(s, 0, v)
		written, _ := json.Parse(avro)
		records, _ := rec.Split(string(b))
		name, _ := prule.Message(p, "M0")
		files, _, _, _ := pname.Load([]api.Source{{Name: "a", Text: kinds}})
		pool := []any{s, changedAvro(r, avro), v, p, n, m, d, b, c, []byte(noise(r, p, "M0", 2)), tree, more, written, records, name, mask(r, p, "M0"), files,
			"M0", "M0", "M1", avro, kinds, string(b), 0, 1, 2, uint64(r.Intn(99)), []api.Source{{Name: "a", Text: kinds}}}
		for _, call := range everything() {
			f := reflect.ValueOf(call)
			var in []reflect.Value
			for k := range f.Type().NumIn() {
				in = append(in, pick(r, pool, f.Type().In(k)))
			}
			try(t, f, in)
		}
	}
}

// pick tells one of the pool's values of a type, in memory of its own, most often with something else in it.
func pick(r *rand.Rand, pool []any, typ reflect.Type) reflect.Value {
	out := reflect.New(typ).Elem()
	fill(r, out, 3)
	var l []reflect.Value
	for _, x := range pool {
		if reflect.TypeOf(x) == typ {
			l = append(l, reflect.ValueOf(x))
		}
	}
	if len(l) > 0 {
		out.Set(clone(one(r, l...)))
		most := 3
		if typ.Kind() != reflect.Struct && r.Intn(4) > 0 {
			most = 1
		}
		for range r.Intn(most) {
			spoil(r, out)
		}
	}
	return out
}

func clone(v reflect.Value) reflect.Value {
	out := reflect.New(v.Type()).Elem()
	switch v.Kind() {
	case reflect.Slice:
		if v.Len() > 0 {
			out.Set(reflect.MakeSlice(v.Type(), v.Len(), v.Len()+1))
		}
		for i := range v.Len() {
			out.Index(i).Set(clone(v.Index(i)))
		}
	case reflect.Struct:
		for i := range v.NumField() {
			out.Field(i).Set(clone(v.Field(i)))
		}
	default:
		out.Set(v)
	}
	return out
}

func text(l []reflect.Value) string {
	s := ""
	for _, v := range l {
		s += fmt.Sprintf("%#v;", v.Interface())
	}
	return s
}
