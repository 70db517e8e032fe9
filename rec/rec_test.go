package rec

import (
	"slices"
	"strings"
	"testing"

	"proclitic/api"
)

// P1.1
func TestVarint(t *testing.T) {
	long := strings.Repeat("\x80", 9)
	for _, x := range []struct {
		s string
		v uint64
		n int
		e api.Errno
	}{
		{"\x00", 0, 1, api.OK},
		{"\x7f\x7f", 127, 1, api.OK},
		{"\x96\x01", 150, 2, api.OK},
		{"\x81\x80\x00", 1, 3, api.OK},
		{long + "\x00", 0, 10, api.OK},
		{long + "\x01", 1 << 63, 10, api.OK},
		{long + "\x02", 0, 0, api.ErrMalformed},
		{long + "\x81\x00", 0, 0, api.ErrMalformed},
		{long + "\x80\x00", 0, 0, api.ErrMalformed},
		{long, 0, 0, api.ErrMalformed},
		{"", 0, 0, api.ErrMalformed},
		{"\xff", 0, 0, api.ErrMalformed},
	} {
		v, n, e := Varint(x.s)
		if v != x.v || n != x.n || e != x.e {
			t.Errorf("Varint(%x): %d %d %d", x.s, v, n, e)
		}
	}
}

// P1.1
func TestPutVarintIsShortest(t *testing.T) {
	for shift := range 64 {
		for _, v := range []uint64{1 << shift, 1<<shift - 1, 1<<shift | 1} {
			s := PutVarint(v)
			back, n, e := Varint(s)
			if back != v || n != len(s) || e != api.OK {
				t.Errorf("%d: %x", v, s)
			}
			if len(s) > 1 && s[len(s)-1] == 0 {
				t.Errorf("%d is padded: %x", v, s)
			}
		}
	}
}

// P1.2
func TestSplitTellsWhatLies(t *testing.T) {
	s := "\x08\x96\x01" + "\x12\x02hi" + "\x1d\x01\x02\x03\xff" + "\x21\x01\x00\x00\x00\x00\x00\x00\x80" + "\x8a\x00\x80\x00"
	want := []api.Record{
		{Num: 1, Wire: api.WireVarint, N: 150, Raw: "\x08\x96\x01"},
		{Num: 2, Wire: api.WireText, S: "hi", Raw: "\x12\x02hi"},
		{Num: 3, Wire: api.WireFixed4, N: 0xff030201, Raw: "\x1d\x01\x02\x03\xff"},
		{Num: 4, Wire: api.WireFixed8, N: 1<<63 + 1, Raw: "\x21\x01\x00\x00\x00\x00\x00\x00\x80"},
		{Num: 1, Wire: api.WireText, Raw: "\x8a\x00\x80\x00"},
	}
	l, e := Split(s)
	if e != api.OK || !slices.Equal(l, want) {
		t.Errorf("%v %d", l, e)
	}
	if Join(l) != s {
		t.Errorf("joined: %x", Join(l))
	}
	if l, e := Split(""); len(l) != 0 || e != api.OK {
		t.Errorf("nothing: %v %d", l, e)
	}
}

// P1.2
func TestSplitErrors(t *testing.T) {
	most := "\x0a\x85\x27" + strings.Repeat("a", api.MaxBytes-3)
	for _, x := range []struct {
		s string
		e api.Errno
	}{
		{"\x00\x00", api.ErrMalformed},
		{"\x0b", api.ErrMalformed},
		{"\x0c", api.ErrMalformed},
		{"\x0e\x00", api.ErrMalformed},
		{"\x0f\x00", api.ErrMalformed},
		{"\x08", api.ErrMalformed},
		{"\x08\x80", api.ErrMalformed},
		{"\x09\x01\x02\x03\x04\x05\x06\x07", api.ErrMalformed},
		{"\x0d\x01\x02\x03", api.ErrMalformed},
		{"\x0a\x02a", api.ErrMalformed},
		{"\x0a", api.ErrMalformed},
		{"\x0a\x80", api.ErrMalformed},
		{"\x0a\xff\xff\xff\xff\xff\xff\xff\xff\x7f", api.ErrMalformed},
		{"\x08\x01\x80", api.ErrMalformed},
		{"\x80\x80\x80\x80\x10\x00", api.ErrMalformed},
		{"\xf8\xff\xff\xff\x0f\x00", api.OK},
		{most, api.OK},
		{most + "b", api.ErrLimit},
		{strings.Repeat("\xff", api.MaxBytes+1), api.ErrLimit},
	} {
		l, e := Split(x.s)
		if e != x.e || e != api.OK && l != nil {
			t.Errorf("%.12x: %d", x.s, e)
		}
	}
}

// P1.2
func TestPutIsSplitAsItWas(t *testing.T) {
	for _, x := range []struct {
		r    api.Record
		want string
	}{
		{api.Record{Num: 1, N: 150, S: "no", Raw: "no"}, "\x08\x96\x01"},
		{api.Record{Num: 2, Wire: api.WireText, N: 9, S: "hi"}, "\x12\x02hi"},
		{api.Record{Num: 3, Wire: api.WireFixed4, N: 0xaa_04030201}, "\x1d\x01\x02\x03\x04"},
		{api.Record{Num: 4, Wire: api.WireFixed8, N: 1<<63 + 2}, "\x21\x02\x00\x00\x00\x00\x00\x00\x80"},
		{api.Record{Num: api.MaxNum}, "\xf8\xff\xff\xff\x0f\x00"},
		{api.Record{Num: api.MaxNum + 1}, ""},
		{api.Record{Num: 0}, ""},
		{api.Record{Num: -1}, ""},
		{api.Record{Num: 1, Wire: 3}, ""},
		{api.Record{Num: 1, Wire: 4}, ""},
		{api.Record{Num: 1, Wire: 8}, ""},
		{api.Record{Num: 1, Wire: -1}, ""},
	} {
		s := Put(x.r)
		if s != x.want {
			t.Errorf("%v: %x", x.r, s)
		}
		if l, e := Split(s); s != "" && (e != api.OK || len(l) != 1 || l[0].Num != x.r.Num || l[0].Raw != s) {
			t.Errorf("%v: %v %d", x.r, l, e)
		}
	}
}
