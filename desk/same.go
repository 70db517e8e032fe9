package desk

import (
	"slices"

	"proclitic/api"
	"proclitic/json"
)

// same tells whether two schemas are one.
func same(a, b schema) bool {
	return a.avro == b.avro && slices.EqualFunc(a.a.Types, b.a.Types, sameType) &&
		slices.EqualFunc(a.p.Messages, b.p.Messages, sameMessage) && slices.EqualFunc(a.p.Enums, b.p.Enums, sameEnum)
}

// sameType tells whether two types are one; types that are one are said as one text, too.
func sameType(a, b api.AType) bool {
	plain := a.Kind == b.Kind && a.Name == b.Name && a.Items == b.Items && a.Size == b.Size && a.HasDef == b.HasDef && a.Def == b.Def
	return plain && slices.Equal(a.Aliases, b.Aliases) && slices.Equal(a.Syms, b.Syms) &&
		slices.Equal(a.Branches, b.Branches) && slices.EqualFunc(a.Fields, b.Fields, sameField)
}

func sameField(a, b api.AField) bool {
	return a.Name == b.Name && a.Type == b.Type && slices.Equal(a.Aliases, b.Aliases) && a.HasDef == b.HasDef && json.Same(a.Def, b.Def)
}

func sameMessage(a, b api.PMessage) bool {
	return a.Name == b.Name && slices.Equal(a.Fields, b.Fields) && slices.Equal(a.Oneofs, b.Oneofs)
}

func sameEnum(a, b api.PEnum) bool {
	return a.Name == b.Name && slices.Equal(a.Values, b.Values)
}
