package sixty

import (
	"encoding/base64"
	"math/rand"
	"testing"

	"proclitic/api"
)

// P4.1
func TestPut(t *testing.T) {
	for s, want := range map[string]string{
		"": "", "a": "YQ==", "ab": "YWI=", "abc": "YWJj", "abcd": "YWJjZA==",
		"\x00": "AA==", "\xff\xff\xff": "////", "\xfb\xef\xbe": "++++", "\x00\x10\x83": "ABCD",
	} {
		if Put(s) != want {
			t.Errorf("%x: %s", s, Put(s))
		}
		if back, e := Take(want); back != s || e != api.OK {
			t.Errorf("%s: %x %d", want, back, e)
		}
	}
}

// P4.1
func TestTakeErrors(t *testing.T) {
	for _, s := range []string{"A", "AA", "AAA", "YQ=", "YQ", "YR==", "YWJ=", "YWI", "====", "A===", "YQ==YQ==", "YWI=YWJj", "YQ=a", "=AAA", "YW-j", "YW_j", "YWJj\n", "YWJj YWJj", "Y Q=", "AAAAA", "AAAA====", "\xff\xff\xff\xff"} {
		if b, e := Take(s); b != "" || e != api.ErrMalformed {
			t.Errorf("%q: %x %d", s, b, e)
		}
	}
}

// P4.1: each text has one way.
func TestOneWay(t *testing.T) {
	r := rand.New(rand.NewSource(1))
	strict := base64.StdEncoding.Strict()
	for range 200000 {
		b := make([]byte, 4*(1+r.Intn(2)))
		for i := range b {
			b[i] = "AQgwYz+/=0"[r.Intn(10)]
		}
		want, err := strict.DecodeString(string(b))
		got, e := Take(string(b))
		if (err == nil) != (e == api.OK) || err == nil && got != string(want) {
			t.Fatalf("%s: %x %d", b, got, e)
		}
		if e == api.OK && Put(got) != string(b) {
			t.Fatalf("%s: %s", b, Put(got))
		}
	}
	for range 2000 {
		b := make([]byte, r.Intn(20))
		r.Read(b)
		s := Put(string(b))
		if s != base64.StdEncoding.EncodeToString(b) {
			t.Fatalf("%x: %s", b, s)
		}
		if back, e := Take(s); back != string(b) || e != api.OK {
			t.Fatalf("%s: %x %d", s, back, e)
		}
	}
}
