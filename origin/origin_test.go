package origin

import (
	"testing"

	"proclitic/api"
)

// P23.1: the writer's field of its name, or else of one of its aliases, the first one in their order.
func TestField(t *testing.T) {
	w := api.AType{Fields: []api.AField{{Name: "a"}, {Name: "b"}, {Name: "c", Aliases: []string{"z"}}}}
	for i, x := range []struct {
		f    api.AField
		want int
		ok   bool
	}{
		{api.AField{Name: "b", Aliases: []string{"a"}}, 1, true},
		{api.AField{Name: "a", Aliases: []string{"b"}}, 0, true},
		{api.AField{Name: "x", Aliases: []string{"a", "b"}}, 0, true},
		{api.AField{Name: "x", Aliases: []string{"y", "c", "a"}}, 2, true},
		{api.AField{Name: "x", Aliases: []string{"y"}}, 0, false},
		{api.AField{Name: "z"}, 0, false},
		{api.AField{}, 0, false},
	} {
		if k, ok := Field(w, x.f); k != x.want || ok != x.ok {
			t.Errorf("%d: %d %v", i, k, ok)
		}
	}
}
