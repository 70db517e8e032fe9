package tojson

import (
	"math"
	"slices"

	"proclitic/api"
	"proclitic/cast"
	"proclitic/prule"
	"proclitic/pval"
)

// Proto tells the tree of m, a value of that message of s; what is not known is left out.
func Proto(s api.PSchema, name string, m api.Msg) (api.JNode, api.Errno) {
	if _, ok := prule.Message(s, name); !ok {
		return api.JNode{}, api.ErrArg
	}
	if !pval.Fits(s, name, m) {
		return api.JNode{}, api.ErrType
	}
	return proto{s}.message(name, m), api.OK
}

// proto has the schema of what is told or read.
type proto struct{ s api.PSchema }

func (k proto) message(name string, m api.Msg) api.JNode {
	p, _ := prule.Message(k.s, name)
	var names []string
	var l []api.JNode
	for _, x := range m.Fields {
		f, _ := prule.Field(p, x.Num)
		names = append(names, f.Name)
		l = append(l, k.field(f, x.L))
	}
	return table(names, l)
}

// field tells the tree of a field's values.
func (k proto) field(f api.PField, l []api.Val) api.JNode {
	switch f.Label {
	case api.Mapped:
		return k.mapped(f, l)
	case api.Repeated:
		var parts []api.JNode
		for _, v := range l {
			parts = append(parts, k.value(f, v))
		}
		return list(parts)
	}
	return k.value(f, l[0])
}

func (k proto) mapped(f api.PField, l []api.Val) api.JNode {
	var names []string
	var parts []api.JNode
	for i := 0; i < len(l); i += 2 {
		names = append(names, keyText(f.Key, l[i]))
		parts = append(parts, k.value(f, l[i+1]))
	}
	return table(names, parts)
}

// signed tells whether numbers of a kind have a sign.
func signed(kind int) bool {
	switch kind {
	case api.KInt32, api.KSint32, api.KSfixed32, api.KInt64, api.KSint64, api.KSfixed64:
		return true
	}
	return false
}

// keyText tells a map's key as a name.
func keyText(kind int, v api.Val) string {
	switch {
	case kind == api.KString:
		return v.S
	case kind == api.KBool && v.N == 0:
		return "false"
	case kind == api.KBool:
		return "true"
	}
	return tens(v.N, signed(kind))
}

// value tells the tree of one value of f.
func (k proto) value(f api.PField, v api.Val) api.JNode {
	switch f.Kind {
	case api.KInt64, api.KSint64, api.KSfixed64, api.KUint64, api.KFixed64:
		return text(tens(v.N, signed(f.Kind)))
	case api.KBool:
		return truth(v.N)
	case api.KFloat:
		return text(hex(v.N, 8))
	case api.KDouble:
		return text(hex(v.N, 16))
	case api.KString:
		return text(v.S)
	case api.KBytes:
		return packed(v.S)
	case api.KMessage:
		return k.message(f.Type, v.M)
	case api.KEnum:
		if name, ok := k.symbol(f.Type, v.N); ok {
			return text(name)
		}
	}
	return number(v.N)
}

// symbol tells the first name of an enum's number.
func (k proto) symbol(enum string, n uint64) (string, bool) {
	u, _ := prule.Enum(k.s, enum)
	i := slices.IndexFunc(u.Values, func(v api.PValue) bool { return uint64(v.N) == n })
	if i < 0 {
		return "", false
	}
	return u.Values[i].Name, true
}

// FromProto tells the value of that message of s, without what is not known, of which Proto tells just n.
func FromProto(s api.PSchema, name string, n api.JNode) (api.Msg, api.Errno) {
	if _, ok := prule.Message(s, name); !ok {
		return api.Msg{}, api.ErrArg
	}
	return proto{s}.fromMessage(name, n, 1)
}

// fromMessage reads a message that lies so deep.
func (k proto) fromMessage(name string, n api.JNode, depth int) (api.Msg, api.Errno) {
	if depth > api.MaxDepth {
		return api.Msg{}, api.ErrLimit
	}
	p, ok := prule.Message(k.s, name)
	if !ok || !isTable(n) {
		return api.Msg{}, api.ErrType
	}
	var m api.Msg
	last := math.MinInt
	oneofs := map[int]int{}
	for i, part := range n.Names {
		f, ok := prule.Named(p, part)
		if !ok || f.Num <= last {
			return api.Msg{}, api.ErrType
		}
		last = f.Num
		l, e := k.fromField(f, n.L[i], depth)
		if e != api.OK {
			return api.Msg{}, e
		}
		if f.Oneof != 0 && oneofs[f.Oneof] > 0 {
			return api.Msg{}, api.ErrType
		}
		oneofs[f.Oneof]++
		m.Fields = append(m.Fields, api.Field{Num: f.Num, L: l})
	}
	return m, api.OK
}

// fromField reads a field's values; there is at least one.
func (k proto) fromField(f api.PField, n api.JNode, depth int) ([]api.Val, api.Errno) {
	switch f.Label {
	case api.Mapped:
		return k.fromMapped(f, n, depth)
	case api.Repeated:
		return k.fromRepeated(f, n, depth)
	}
	v, e := k.fromValue(f, n, depth)
	if e != api.OK {
		return nil, e
	}
	plain := f.Label == api.One && f.Oneof == 0 && f.Kind != api.KMessage
	if plain && v.N == 0 && v.S == "" {
		return nil, api.ErrType
	}
	return []api.Val{v}, api.OK
}

func (k proto) fromRepeated(f api.PField, n api.JNode, depth int) ([]api.Val, api.Errno) {
	if n.Kind != api.JList || len(n.L) == 0 {
		return nil, api.ErrType
	}
	var l []api.Val
	for _, part := range n.L {
		v, e := k.fromValue(f, part, depth)
		if e != api.OK {
			return nil, e
		}
		l = append(l, v)
	}
	return l, api.OK
}

func (k proto) fromMapped(f api.PField, n api.JNode, depth int) ([]api.Val, api.Errno) {
	if !isTable(n) || len(n.L) == 0 {
		return nil, api.ErrType
	}
	var l []api.Val
	for i, name := range n.Names {
		key, ok := fromKey(f.Key, name)
		if !ok || i > 0 && pval.Cmp(f.Key, l[2*i-2], key) >= 0 {
			return nil, api.ErrType
		}
		v, e := k.fromValue(f, n.L[i], depth)
		if e != api.OK {
			return nil, e
		}
		l = append(l, key, v)
	}
	return l, api.OK
}

// fromKey tells the key of which keyText tells just the name.
func fromKey(kind int, name string) (api.Val, bool) {
	switch kind {
	case api.KString:
		s, ok := fromText(text(name))
		return api.Val{S: s}, ok
	case api.KBool:
		if name == "true" {
			return api.Val{N: 1}, true
		}
		return api.Val{}, name == "false"
	}
	v, ok := fromTens(name, signed(kind))
	return api.Val{N: v}, ok && cast.Fits(kind, v)
}

// fromValue reads one value of f.
func (k proto) fromValue(f api.PField, n api.JNode, depth int) (v api.Val, e api.Errno) {
	ok := false
	switch f.Kind {
	case api.KInt64, api.KSint64, api.KSfixed64, api.KUint64, api.KFixed64:
		v.N, ok = fromTens(n.S, signed(f.Kind))
		ok = ok && n.Kind == api.JText
	case api.KBool:
		v.N, ok = fromTruth(n)
	case api.KFloat:
		v.N, ok = fromHex(n, 8)
	case api.KDouble:
		v.N, ok = fromHex(n, 16)
	case api.KString:
		v.S, ok = fromText(n)
	case api.KBytes:
		v.S, ok = fromPacked(n)
	case api.KMessage:
		v.M, e = k.fromMessage(f.Type, n, depth+1)
		return v, e
	case api.KEnum:
		v.N, ok = k.fromSymbol(f.Type, n)
	default:
		v.N, ok = uint64(n.N), n.Kind == api.JInt && cast.Fits(f.Kind, uint64(n.N))
	}
	if !ok {
		return api.Val{}, api.ErrType
	}
	return v, api.OK
}

// fromSymbol tells the number of an enum that is told just as n.
func (k proto) fromSymbol(enum string, n api.JNode) (uint64, bool) {
	if n.Kind == api.JInt {
		_, named := k.symbol(enum, uint64(n.N))
		return uint64(n.N), !named && cast.Fits(api.KEnum, uint64(n.N))
	}
	u, _ := prule.Enum(k.s, enum)
	i := slices.IndexFunc(u.Values, func(v api.PValue) bool { return v.Name == n.S })
	if n.Kind != api.JText || i < 0 {
		return 0, false
	}
	v := uint64(u.Values[i].N)
	first, _ := k.symbol(enum, v)
	return v, first == n.S && cast.Fits(api.KEnum, v)
}
