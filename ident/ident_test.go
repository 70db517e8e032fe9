package ident

import "testing"

// P8.1, P11.1, P25.1: a letter or _, then letters, digits, _.
func TestIs(t *testing.T) {
	for _, s := range []string{"a", "_", "Zz_09", "__", "_1"} {
		if !Is(s) {
			t.Errorf("%q", s)
		}
	}
	for _, s := range []string{"", "1", "1a", "a.b", "a-b", "é", "a b", "@", "[", "`", "{", "a\x00", "\xc1", "\xda"} {
		if Is(s) {
			t.Errorf("%q", s)
		}
	}
	for c := range 256 {
		b := byte(c)
		letter := b == '_' || 'a' <= b && b <= 'z' || 'A' <= b && b <= 'Z'
		if Letter(b) != letter || Digit(b) != (b >= '0' && b <= '9') {
			t.Errorf("%q", b)
		}
	}
}
