package tojson

import (
	"slices"

	"proclitic/api"
	"proclitic/aval"
	"proclitic/avsc"
	"proclitic/glyph"
)

// Avro tells the tree of v, a value of type t.
func Avro(s api.ASchema, t int, v api.AVal) (api.JNode, api.Errno) {
	if t < 0 || t >= len(s.Types) {
		return api.JNode{}, api.ErrArg
	}
	if !aval.Fits(s, t, v) {
		return api.JNode{}, api.ErrType
	}
	return avro{s}.value(t, v), api.OK
}

// avro has the schema of what is told or read.
type avro struct{ s api.ASchema }

func (k avro) value(t int, v api.AVal) api.JNode {
	switch a := k.s.Types[t]; a.Kind {
	case api.ARecord:
		var names []string
		var parts []api.JNode
		for i, f := range a.Fields {
			names = append(names, f.Name)
			parts = append(parts, k.value(f.Type, v.L[i]))
		}
		return table(names, parts)
	case api.AArray:
		return list(k.values(a.Items, v.L))
	case api.AMap:
		return table(slices.Clone(v.Keys), k.values(a.Items, v.L))
	case api.AUnion:
		return k.union(a, v)
	default:
		return plain(a, v)
	}
}

func (k avro) values(t int, l []api.AVal) []api.JNode {
	var out []api.JNode
	for _, v := range l {
		out = append(out, k.value(t, v))
	}
	return out
}

// union tells which branch, and its value; null says which by itself.
func (k avro) union(a api.AType, v api.AVal) api.JNode {
	t := a.Branches[v.Branch]
	part := k.value(t, v.L[0])
	if k.isNull(t) {
		return part
	}
	return table([]string{avsc.Tag(k.s, t)}, []api.JNode{part})
}

// isNull tells whether type t is null itself: a named type may be called so, too.
func (k avro) isNull(t int) bool {
	return t >= 0 && t < len(k.s.Types) && k.s.Types[t].Kind == api.ANull
}

// plain tells a value without parts.
func plain(a api.AType, v api.AVal) api.JNode {
	switch a.Kind {
	case api.ABool:
		return truth(v.N)
	case api.AInt:
		return number(v.N)
	case api.ALong:
		return text(tens(v.N, true))
	case api.AFloat:
		return text(hex(v.N, 8))
	case api.ADouble:
		return text(hex(v.N, 16))
	case api.AString:
		return text(v.S)
	case api.ABytes, api.AFixed:
		return packed(v.S)
	case api.AEnum:
		return text(a.Syms[v.N])
	}
	return api.JNode{Kind: api.JNull}
}

// FromAvro tells the value of type t of which Avro tells just n.
func FromAvro(s api.ASchema, t int, n api.JNode) (api.AVal, api.Errno) {
	if t < 0 || t >= len(s.Types) {
		return api.AVal{}, api.ErrArg
	}
	return avro{s}.fromValue(t, n, 1)
}

// fromValue reads a value of type t that lies so deep.
func (k avro) fromValue(t int, n api.JNode, depth int) (api.AVal, api.Errno) {
	if depth > api.MaxDepth {
		return api.AVal{}, api.ErrLimit
	}
	if t < 0 || t >= len(k.s.Types) {
		return api.AVal{}, api.ErrType
	}
	switch a := k.s.Types[t]; a.Kind {
	case api.ARecord:
		return k.fromRecord(a, n, depth)
	case api.AArray, api.AMap:
		return k.fromItems(a, n, depth)
	case api.AUnion:
		return k.fromUnion(a, n, depth)
	default:
		v, ok := fromPlain(a, n)
		if !ok {
			return api.AVal{}, api.ErrType
		}
		return v, api.OK
	}
}

// fromPlain reads a value without parts.
func fromPlain(a api.AType, n api.JNode) (v api.AVal, ok bool) {
	switch a.Kind {
	case api.ANull:
		ok = n.Kind == api.JNull
	case api.ABool:
		v.N, ok = fromTruth(n)
	case api.AInt:
		v.N, ok = uint64(n.N), n.Kind == api.JInt && n.N == int64(int32(n.N))
	case api.ALong:
		v.N, ok = fromTens(n.S, true)
		ok = ok && n.Kind == api.JText
	case api.AFloat:
		v.N, ok = fromHex(n, 8)
	case api.ADouble:
		v.N, ok = fromHex(n, 16)
	case api.AString:
		v.S, ok = fromText(n)
	case api.ABytes:
		v.S, ok = fromPacked(n)
	case api.AFixed:
		v.S, ok = fromPacked(n)
		ok = ok && len(v.S) == a.Size
	case api.AEnum:
		i := slices.Index(a.Syms, n.S)
		v.N, ok = uint64(i), n.Kind == api.JText && i >= 0
	}
	return v, ok
}

func (k avro) fromRecord(a api.AType, n api.JNode, depth int) (api.AVal, api.Errno) {
	if !isTable(n) {
		return api.AVal{}, api.ErrType
	}
	var v api.AVal
	for i, name := range n.Names {
		if i >= len(a.Fields) || a.Fields[i].Name != name {
			return api.AVal{}, api.ErrType
		}
		part, e := k.fromValue(a.Fields[i].Type, n.L[i], depth+1)
		if e != api.OK {
			return api.AVal{}, e
		}
		v.L = append(v.L, part)
	}
	if len(v.L) < len(a.Fields) {
		return api.AVal{}, api.ErrType
	}
	return v, api.OK
}

// fromItems reads an array, or a map whose keys rise.
func (k avro) fromItems(a api.AType, n api.JNode, depth int) (api.AVal, api.Errno) {
	if a.Kind == api.AArray && n.Kind != api.JList || a.Kind == api.AMap && !isTable(n) {
		return api.AVal{}, api.ErrType
	}
	var v api.AVal
	for i, part := range n.L {
		if a.Kind == api.AMap {
			key := n.Names[i]
			if !glyph.Valid(key) || i > 0 && n.Names[i-1] >= key {
				return api.AVal{}, api.ErrType
			}
			v.Keys = append(v.Keys, key)
		}
		x, e := k.fromValue(a.Items, part, depth+1)
		if e != api.OK {
			return api.AVal{}, e
		}
		v.L = append(v.L, x)
	}
	return v, api.OK
}

// fromUnion reads the value of the branch that n says.
func (k avro) fromUnion(a api.AType, n api.JNode, depth int) (api.AVal, api.Errno) {
	part := n
	i := -1
	switch {
	case n.Kind == api.JNull:
		i = slices.IndexFunc(a.Branches, k.isNull)
	case isTable(n) && len(n.L) == 1:
		part = n.L[0]
		i = slices.IndexFunc(a.Branches, func(b int) bool { return !k.isNull(b) && avsc.Tag(k.s, b) == n.Names[0] })
	}
	if i < 0 {
		return api.AVal{}, api.ErrType
	}
	v, e := k.fromValue(a.Branches[i], part, depth+1)
	if e != api.OK {
		return api.AVal{}, e
	}
	return api.AVal{Branch: i, L: []api.AVal{v}}, api.OK
}
