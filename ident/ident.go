// Package ident tells which texts are names.
package ident

// Is tells whether s is a letter or _, then letters, digits, _.
func Is(s string) bool {
	for i := range len(s) {
		if !Letter(s[i]) && (i == 0 || !Digit(s[i])) {
			return false
		}
	}
	return s != ""
}

// Letter tells whether b is a letter or _.
func Letter(b byte) bool { return b == '_' || 'a' <= b|0x20 && b|0x20 <= 'z' }

// Digit tells whether b is a digit of ten.
func Digit(b byte) bool { return '0' <= b && b <= '9' }
