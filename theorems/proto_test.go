// Package theorems tests what follows of all layers together, on schemas and values that are made up by a seeded source.
package theorems

import (
	"cmp"
	"fmt"
	"math/rand"
	"slices"
	"strings"
	"testing"

	"proclitic/api"
	"proclitic/cast"
	"proclitic/cross"
	"proclitic/json"
	"proclitic/mtree"
	"proclitic/path"
	"proclitic/pcomp"
	"proclitic/pdec"
	"proclitic/penc"
	"proclitic/pname"
	"proclitic/pread"
	"proclitic/prule"
	"proclitic/pval"
	"proclitic/rec"
	"proclitic/splice"
	"proclitic/tojson"
)

var words = strings.Fields("double float int32 int64 uint32 uint64 sint32 sint64 fixed32 fixed64 sfixed32 sfixed64 bool string bytes")

// one tells one of several.
func one[T any](r *rand.Rand, l ...T) T { return l[r.Intn(len(l))] }

// protoText writes a schema of messages M0 to M3 with fields of small numbers.
func protoText(r *rand.Rand, kinds []string) string {
	var b strings.Builder
	b.WriteString(`syntax = "proto3"; enum E { A = 0; B = 1; C = -1; } enum F { Z = 0; Y = 2; } `)
	for i := range 4 {
		fmt.Fprintf(&b, "message M%d { ", i)
		oneof := map[int][]string{}
		for num := 1; num <= 9; num++ {
			if r.Intn(3) == 0 {
				continue
			}
			kind := one(r, kinds...)
			field := fmt.Sprintf("%s f%d = %d", kind, num, num)
			packed := one(r, "", "", " [packed=false]", " [packed=true]")
			if kind[0] == 'M' || kind == "string" || kind == "bytes" {
				packed = ""
			}
			switch r.Intn(6) {
			case 0:
				field = "optional " + field
			case 1:
				field = "repeated " + field + packed
			case 2:
				field = fmt.Sprintf("map<%s, %s> f%d = %d", one(r, "string", "string", "int32", "sint64", "bool", "uint64"), kind, num, num)
			case 3:
				k := 1 + r.Intn(2)
				oneof[k] = append(oneof[k], field)
				continue
			}
			b.WriteString(field + "; ")
		}
		for k := 1; k <= 2; k++ {
			if len(oneof[k]) > 0 {
				fmt.Fprintf(&b, "oneof o%d { %s; } ", k, strings.Join(oneof[k], "; "))
			}
		}
		b.WriteString("} ")
	}
	return b.String()
}

// changed tells a text some of whose words are others.
func changed(r *rand.Rand, text string) string {
	l := strings.Split(text, " ")
	for i := range l {
		if r.Intn(12) > 0 {
			continue
		}
		switch l[i] {
		case "int32", "int64", "uint32", "uint64", "bool":
			l[i] = one(r, "int32", "int64", "uint32", "uint64", "bool", "E")
		case "sint32", "sint64":
			l[i] = one(r, "sint32", "sint64")
		case "string":
			l[i] = "bytes"
		case "M1", "M2", "M3":
			if l[i-1] != "message" {
				l[i] = one(r, "M1", "M2", "M3")
			}
		case "optional":
			l[i] = ""
		}
	}
	out := strings.Join(l, " ")
	for num := 1; num <= 9; num++ {
		if r.Intn(5) == 0 {
			out = strings.Replace(out, fmt.Sprintf(" = %d;", num), fmt.Sprintf(" = %d;", num+20), r.Intn(4))
		}
	}
	return out
}

func protoSchema(t *testing.T, text string) api.PSchema {
	files, e, _, at := pname.Load([]api.Source{{Name: "a", Text: text}})
	if e != api.OK {
		t.Fatalf("%s: %d at %d", text, e, at)
	}
	s, e, whole := prule.Schema(files)
	if e != api.OK {
		t.Fatalf("%s: %d in %s", text, e, whole)
	}
	return s
}

// message makes up a value of a message.
func message(r *rand.Rand, s api.PSchema, name string, depth int) api.Msg {
	p, _ := prule.Message(s, name)
	var m api.Msg
	taken := map[int]bool{}
	for _, f := range p.Fields {
		if r.Intn(2) == 0 || f.Oneof != 0 && taken[f.Oneof] || f.Kind == api.KMessage && depth > 3 {
			continue
		}
		var l []api.Val
		switch f.Label {
		case api.Repeated:
			for range 1 + r.Intn(3) {
				l = append(l, value(r, s, f.Kind, f.Type, depth))
			}
		case api.Mapped:
			l = entries(r, s, f, depth)
		default:
			v := value(r, s, f.Kind, f.Type, depth)
			if f.Label == api.One && f.Oneof == 0 && f.Kind != api.KMessage && v.N == 0 && v.S == "" {
				continue
			}
			l = []api.Val{v}
		}
		taken[f.Oneof] = true
		m.Fields = append(m.Fields, api.Field{Num: f.Num, L: l})
	}
	for range max(0, r.Intn(4)-2) {
		m.Rest += rec.Put(api.Record{Num: 100 + r.Intn(5), Wire: one(r, 0, 1, 2, 5), N: r.Uint64() >> r.Intn(64), S: "?"})
	}
	return m
}

func entries(r *rand.Rand, s api.PSchema, f api.PField, depth int) []api.Val {
	var keys []api.Val
	for range 1 + r.Intn(3) {
		k := value(r, s, f.Key, "", depth)
		if !slices.ContainsFunc(keys, func(x api.Val) bool { return x.N == k.N && x.S == k.S }) {
			keys = append(keys, k)
		}
	}
	slices.SortFunc(keys, func(a, b api.Val) int { return pval.Cmp(f.Key, a, b) })
	var l []api.Val
	for _, k := range keys {
		l = append(l, k, value(r, s, f.Kind, f.Type, depth))
	}
	return l
}

func value(r *rand.Rand, s api.PSchema, kind int, name string, depth int) api.Val {
	switch kind {
	case api.KMessage:
		if depth > 3 {
			return api.Val{}
		}
		return api.Val{M: message(r, s, name, depth+1)}
	case api.KString:
		return api.Val{S: one(r, "", "a", "b", "é", "\n\"")}
	case api.KBytes:
		return api.Val{S: one(r, "", "a", "\xff", "\x08\x01")}
	}
	n := one(r, 0, 1, 2, r.Uint64()>>r.Intn(64), -uint64(1+r.Intn(3)), 1<<31, 1<<32, 1<<63)
	return api.Val{N: cast.From(kind, n)}
}

// protoPair tells a schema and what it has become.
func protoPair(t *testing.T, r *rand.Rand) (o, n api.PSchema) {
	kinds := append(slices.Clone(words), "M1", "M2", "M3", "E", "F", "M1", "M2")
	text := protoText(r, kinds)
	o = protoSchema(t, text)
	files, e, _, _ := pname.Load([]api.Source{{Name: "a", Text: changed(r, text)}})
	if e != api.OK {
		return o, o
	}
	if n, e, _ = prule.Schema(files); e != api.OK {
		return o, o
	}
	return o, n
}

// W2, W4: what is encoded is decoded as it was, and told as a text that is told back.
func TestProtoToAndFro(t *testing.T) {
	r := rand.New(rand.NewSource(1))
	for range 1500 {
		s, _ := protoPair(t, r)
		m := message(r, s, "M0", 1)
		if !pval.Fits(s, "M0", m) {
			t.Fatalf("%v does not fit", m)
		}
		b, e := penc.Encode(s, "M0", m)
		if e == api.ErrLimit {
			continue
		}
		back, e2 := pdec.Decode(s, "M0", b)
		if e != api.OK || e2 != api.OK || !pval.Same(back, m) {
			t.Fatalf("%v: %x: %v %d %d", m, b, back, e, e2)
		}
		tree, e := tojson.Proto(s, "M0", m)
		if e != api.OK || !json.May(tree) {
			t.Fatalf("%v: %d", m, e)
		}
		n, e := json.Parse(json.Print(tree))
		if e != api.OK || !json.Same(n, tree) {
			t.Fatalf("%s: %d", json.Print(tree), e)
		}
		bare, e := tojson.FromProto(s, "M0", tree)
		if e != api.OK || !pval.Same(bare, known(m)) {
			t.Fatalf("%s: %v %d", json.Print(tree), bare, e)
		}
	}
}

// known tells a message without what is not known.
func known(m api.Msg) api.Msg {
	var out api.Msg
	for _, x := range m.Fields {
		f := api.Field{Num: x.Num}
		for _, v := range x.L {
			f.L = append(f.L, api.Val{N: v.N, S: v.S, M: known(v.M)})
		}
		out.Fields = append(out.Fields, f)
	}
	return out
}

// W2: what the reader decodes of what the writer encodes is the reader's view of it.
func TestReading(t *testing.T) {
	r := rand.New(rand.NewSource(2))
	read, other := 0, 0
	for range 4000 {
		o, n := protoPair(t, r)
		name, as := one(r, "M0", "M1"), one(r, "M0", "M1", "M1")
		if !pcomp.Reads(o, n, name, as) {
			continue
		}
		read++
		if name != as {
			other++
		}
		m := message(r, o, name, 2)
		b, e := penc.Encode(o, name, m)
		if e != api.OK {
			continue
		}
		view, e := pread.Read(o, n, name, as, m)
		got, e2 := pdec.Decode(n, as, b)
		if e != api.OK || e2 != api.OK || !pval.Same(view, got) || !pval.Fits(n, as, view) {
			t.Fatalf("%v: %v %d, but %v %d", m, view, e, got, e2)
		}
		// and doing it twice is doing it once
		again, e := penc.Encode(n, as, view)
		if e != api.OK {
			t.Fatalf("%v: %d", view, e)
		}
		if twice, e := pdec.Decode(n, as, again); e != api.OK || !pval.Same(twice, view) {
			t.Fatalf("%v: %v %d", view, twice, e)
		}
		if !pval.Same(known(view), view) {
			if back, e := pdec.Decode(o, name, again); e != api.OK {
				t.Fatalf("%v: %v %d", view, back, e)
			}
		}
	}
	if read < 400 || other < 1 {
		t.Errorf("only %d, %d are read", read, other)
	}
}

// noise tells records that may be known, or not, in any order.
func noise(r *rand.Rand, s api.PSchema, name string, depth int) string {
	p, _ := prule.Message(s, name)
	var b strings.Builder
	for range r.Intn(7) {
		x := api.Record{Num: 1 + r.Intn(10), Wire: one(r, 0, 1, 2, 5), N: one(r, 0, 1, r.Uint64()>>r.Intn(64)), S: one(r, "", "a", "\x08\x01", "\x12\x01a")}
		if f, ok := prule.Field(p, x.Num); ok && r.Intn(5) > 0 {
			x.Wire = cast.Wire(f.Kind)
			sub := f.Type
			switch {
			case f.Label == api.Mapped:
				x.Wire = api.WireText
				x.S = rec.Put(api.Record{Num: 1, Wire: cast.Wire(f.Key), N: uint64(r.Intn(3)), S: one(r, "", "a")})
				if f.Kind != api.KMessage {
					x.S += rec.Put(api.Record{Num: 2, Wire: cast.Wire(f.Kind), N: uint64(r.Intn(3)), S: "a"})
				}
				if r.Intn(4) == 0 {
					x.S += x.S
				}
			case f.Kind == api.KMessage && depth < 4:
				x.S = noise(r, s, sub, depth+1)
			case f.Label == api.Repeated && x.Wire == api.WireVarint && r.Intn(2) == 0:
				x.Wire, x.S = api.WireText, "\x01\x80\x00\x05"
			}
		}
		raw := rec.Put(x)
		if x.Wire == api.WireVarint && r.Intn(4) == 0 && len(raw) < 8 {
			raw = raw[:len(raw)-1] + string([]byte{raw[len(raw)-1] | 0x80}) + "\x00"
		}
		b.WriteString(raw)
	}
	return b.String()
}

// W2: what is decoded is a value; what is encoded again is decoded as it was, and doing it twice is doing it once.
func TestNoise(t *testing.T) {
	r := rand.New(rand.NewSource(3))
	good := 0
	for range 4000 {
		s, _ := protoPair(t, r)
		b := noise(r, s, "M0", 1)
		m, e := pdec.Decode(s, "M0", []byte(b))
		if e != api.OK {
			continue
		}
		good++
		if !pval.Fits(s, "M0", m) {
			t.Fatalf("%x: %v does not fit", b, m)
		}
		c, e := penc.Encode(s, "M0", m)
		if e != api.OK {
			t.Fatalf("%x: %d", b, e)
		}
		if again, e := pdec.Decode(s, "M0", c); e != api.OK || !pval.Same(again, m) {
			t.Fatalf("%x: %v, then %v %d", b, m, again, e)
		}
	}
	if good < 2000 {
		t.Errorf("only %d are decoded", good)
	}
}

// P15.2: to merge is to write one behind the other.
func TestMergeIsWriting(t *testing.T) {
	r := rand.New(rand.NewSource(4))
	for range 1500 {
		s, _ := protoPair(t, r)
		a, b := message(r, s, "M0", 2), message(r, s, "M0", 2)
		x, e := penc.Encode(s, "M0", a)
		y, e2 := penc.Encode(s, "M0", b)
		if e != api.OK || e2 != api.OK {
			continue
		}
		m, e := pdec.Decode(s, "M0", append(x, y...))
		if e == api.ErrLimit {
			continue
		}
		if got := pval.Merge(s, "M0", a, b); e != api.OK || !pval.Same(got, m) || !pval.Fits(s, "M0", got) {
			t.Fatalf("%v, %v: %v, but %v %d", a, b, got, m, e)
		}
	}
}

// mask makes up a mask of a message.
func mask(r *rand.Rand, s api.PSchema, name string) api.Mask {
	var l []string
	for range r.Intn(6) {
		at, p := "", name
		for {
			m, _ := prule.Message(s, p)
			if len(m.Fields) == 0 {
				break
			}
			f := one(r, m.Fields...)
			at += "." + f.Name
			single := f.Label == api.One || f.Label == api.Optional
			if !single || f.Kind != api.KMessage || r.Intn(2) == 0 {
				l = append(l, at[1:])
				break
			}
			p = f.Type
		}
	}
	m, e := path.Parse(strings.Join(l, ","))
	if e != api.OK {
		return api.Mask{}
	}
	return m
}

// W3: what is projected, merged on bytes is decoded as what is projected, merged on trees.
func TestMasks(t *testing.T) {
	r := rand.New(rand.NewSource(5))
	for range 4000 {
		s, _ := protoPair(t, r)
		m := mask(r, s, "M0")
		// A dead record within what is laid over would kill what lies under it: so that is written once.
		b, d := bytesOf(r, s, 1), bytesOf(r, s, 2)
		v, e := pdec.Decode(s, "M0", b)
		u, e2 := pdec.Decode(s, "M0", d)
		if e != api.OK || e2 != api.OK {
			continue
		}
		whole, e := splice.Project(s, "M0", m, d)
		want, e2 := mtree.Project(s, "M0", m, u)
		if got, e3 := pdec.Decode(s, "M0", whole); e != api.OK || e2 != api.OK || e3 != api.OK || got.Rest != "" || !pval.Same(got, want) {
			t.Fatalf("%s of %x: %x: %v, but %v", path.Text(m), d, whole, got, want)
		}
		both, e := splice.Merge(s, "M0", m, d, b)
		if e == api.ErrLimit {
			continue
		}
		want, e2 = mtree.Merge(s, "M0", m, u, v)
		if got, e3 := pdec.Decode(s, "M0", both); e != api.OK || e2 != api.OK || e3 != api.OK || !pval.Same(got, want) {
			t.Fatalf("%s of %x, %x: %x: %v, but %v", path.Text(m), d, b, both, got, want)
		}
	}
}

// bytesOf makes up the bytes of a message, written so many times at most, one behind the other.
func bytesOf(r *rand.Rand, s api.PSchema, most int) []byte {
	var out []byte
	for range 1 + r.Intn(most) {
		b, e := penc.Encode(s, "M0", message(r, s, "M0", 2))
		if e == api.OK {
			out = append(out, b...)
		}
	}
	return out
}

// W4: what is carried to the other kind of schema and back is itself, without what is not known.
func TestCross(t *testing.T) {
	r := rand.New(rand.NewSource(6))
	done := 0
	for range 1500 {
		text := protoText(r, strings.Fields("int32 int64 bool float double string bytes M1 M2 M3"))
		for _, key := range []string{"int32", "sint64", "bool", "uint64"} {
			text = strings.ReplaceAll(text, "map<"+key, "map<string")
		}
		s := protoSchema(t, text)
		if _, e := cross.Schema(s, "M0"); e == api.ErrLimit {
			continue
		}
		done++
		m := message(r, s, "M0", 1)
		v, e := cross.To(s, "M0", m)
		back, e2 := cross.Back(s, "M0", v)
		if e != api.OK || e2 != api.OK || !pval.Same(back, known(m)) {
			t.Fatalf("%v: %d %v %d", m, e, back, e2)
		}
		carried(t, s, v)
	}
	if done < 300 {
		t.Errorf("only %d", done)
	}
}

// P19: the fields of an answer rise.
func TestFieldsRise(t *testing.T) {
	r := rand.New(rand.NewSource(7))
	for range 300 {
		s, _ := protoPair(t, r)
		for _, p := range s.Messages {
			if !slices.IsSortedFunc(p.Fields, func(a, b api.PField) int { return cmp.Compare(a.Num, b.Num) }) {
				t.Fatalf("%v", p)
			}
		}
	}
}
