package finger

import (
	"fmt"
	"math/rand"
	"testing"
)

// P5.1
func TestOf(t *testing.T) {
	// The fingerprints that are told of these texts of primitive schemas elsewhere.
	for s, want := range map[string]uint64{
		"":         0xc15d213aa4d7a795,
		`"int"`:    0x7275d51a3f395c8f,
		`"string"`: 0x8f014872634503c7,
		`"bytes"`:  0x4fc016dac3201965,
		`"null"`:   0x63dd24e7cc258f8a,
	} {
		if v := Of(s); v != want {
			t.Errorf("%s: %x", s, v)
		}
	}
}

// P5.1
func TestOfByTable(t *testing.T) {
	var table [256]uint64
	for i := range table {
		v := uint64(i)
		for range 8 {
			v = v>>1 ^ 0xc15d213aa4d7a795&-(v&1)
		}
		table[i] = v
	}
	r := rand.New(rand.NewSource(1))
	for range 500 {
		b := make([]byte, r.Intn(40))
		r.Read(b)
		v := uint64(0xc15d213aa4d7a795)
		for _, c := range b {
			v = v>>8 ^ table[byte(v)^c]
		}
		if Of(string(b)) != v {
			t.Fatalf("%x", b)
		}
	}
}

// P5.1
func TestText(t *testing.T) {
	for _, v := range []uint64{0, 1, 0xc15d213aa4d7a795, 1<<64 - 1, 0x0123456789abcdef} {
		if Text(v) != fmt.Sprintf("%016x", v) {
			t.Errorf("%x: %s", v, Text(v))
		}
	}
}
