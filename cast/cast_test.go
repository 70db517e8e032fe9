package cast

import (
	"math"
	"math/rand"
	"testing"

	"proclitic/api"
)

// neg is the bits of a number below 0.
func neg(n int64) uint64 { return uint64(-n) }

// P2.1
func TestWire(t *testing.T) {
	want := []int{-1, 1, 5, 0, 0, 0, 0, 0, 0, 5, 1, 5, 1, 0, 2, 2, 2, 0, -1}
	for kind, w := range want {
		if Wire(kind) != w {
			t.Errorf("Wire(%d): %d", kind, Wire(kind))
		}
	}
	if Wire(-1) != -1 || Wire(1<<40) != -1 {
		t.Error("of none")
	}
}

// P2.1
func TestFrom(t *testing.T) {
	for _, x := range []struct {
		kind      int
		raw, want uint64
	}{
		{api.KInt32, 1<<32 + 5, 5},
		{api.KInt32, 0xffffffff, neg(1)},
		{api.KEnum, 1<<40 | 0x80000000, neg(1 << 31)},
		{api.KSfixed32, 0xfffffffe, neg(2)},
		{api.KUint32, neg(1), 0xffffffff},
		{api.KFixed32, 1<<32 | 7, 7},
		{api.KFloat, 1<<63 | 7, 7},
		{api.KBool, 0, 0},
		{api.KBool, 1 << 63, 1},
		{api.KSint32, 3, neg(2)},
		{api.KSint32, 1<<32 | 2, 1},
		{api.KSint32, 0xffffffff, neg(1 << 31)},
		{api.KSint32, 0xfffffffe, 1<<31 - 1},
		{api.KSint64, 3, neg(2)},
		{api.KSint64, neg(1), 1 << 63},
		{api.KInt64, neg(1), neg(1)},
		{api.KUint64, neg(1), neg(1)},
		{api.KDouble, neg(1), neg(1)},
		{api.KFixed64, 1 << 63, 1 << 63},
		{api.KString, 1 << 33, 1 << 33},
		{99, 1 << 33, 1 << 33},
	} {
		if n := From(x.kind, x.raw); n != x.want {
			t.Errorf("From(%d, %x): %x", x.kind, x.raw, n)
		}
	}
}

// P2.1
func TestTo(t *testing.T) {
	for _, x := range []struct {
		kind    int
		n, want uint64
	}{
		{api.KInt32, neg(1), neg(1)},
		{api.KInt32, 0x80000000, neg(1 << 31)},
		{api.KInt32, 1<<32 | 5, 5},
		{api.KEnum, 0xffffffff, neg(1)},
		{api.KUint32, 1<<32 | 5, 5},
		{api.KFixed32, 1<<32 | 5, 5},
		{api.KFloat, 1<<32 | 5, 5},
		{api.KSfixed32, neg(1), 0xffffffff},
		{api.KSint32, neg(2), 3},
		{api.KSint32, 1, 2},
		{api.KSint32, 1<<32 | 1, 2},
		{api.KSint32, 0x80000000, 0xffffffff},
		{api.KSint64, neg(2), 3},
		{api.KSint64, 1 << 63, neg(1)},
		{api.KSint64, 1 << 62, 1 << 63},
		{api.KBool, 7, 1},
		{api.KBool, 0, 0},
		{api.KInt64, neg(1), neg(1)},
		{api.KMessage, 1 << 60, 1 << 60},
		{0, 1 << 60, 1 << 60},
	} {
		if n := To(x.kind, x.n); n != x.want {
			t.Errorf("To(%d, %x): %x", x.kind, x.n, n)
		}
	}
}

// P2.1
func TestFits(t *testing.T) {
	ok := func(want bool, n uint64, kinds ...int) {
		for _, kind := range kinds {
			if Fits(kind, n) != want {
				t.Errorf("Fits(%d, %x): not %v", kind, n, want)
			}
		}
	}
	narrow := []int{api.KInt32, api.KSint32, api.KSfixed32, api.KEnum}
	ok(true, neg(1<<31), narrow...)
	ok(true, 1<<31-1, narrow...)
	ok(false, 1<<31, narrow...)
	ok(false, neg(1<<31+1), narrow...)
	ok(false, 1<<32|1, narrow...)
	ok(true, 1<<32-1, api.KUint32, api.KFixed32, api.KFloat)
	ok(false, 1<<32, api.KUint32, api.KFixed32, api.KFloat)
	ok(true, 1, api.KBool)
	ok(false, 2, api.KBool)
	ok(true, neg(1), api.KInt64, api.KSint64, api.KSfixed64, api.KUint64, api.KFixed64, api.KDouble)
	ok(false, 0, api.KString, api.KBytes, api.KMessage, 0, 18, -1)
}

// P2.1: From of To is what it was, of what fits.
func TestFromOfTo(t *testing.T) {
	r := rand.New(rand.NewSource(1))
	for range 5000 {
		kind, n := 1+r.Intn(17), r.Uint64()>>r.Intn(64)
		if r.Intn(2) == 0 {
			n = -n
		}
		if n := From(kind, n); Fits(kind, n) && From(kind, To(kind, n)) != n {
			t.Errorf("%d %x", kind, n)
		}
	}
}

// P2.2
func TestNearestFloats(t *testing.T) {
	r := rand.New(rand.NewSource(2))
	l := []int64{0, 1, -1, math.MaxInt64, math.MinInt64, 1 << 53, 1<<53 + 1, 1<<53 + 2, 1<<53 + 3, 1 << 24, 1<<24 + 1, 1<<24 + 2, 1<<24 + 3, 1<<25 - 1, 1<<54 - 1, -(1<<24 + 1)}
	for shift := range 63 {
		for range 40 {
			l = append(l, 1<<shift+r.Int63()>>uint(r.Intn(63)), -(1<<shift | 1), 1<<shift-1)
		}
	}
	for range 5000 {
		l = append(l, int64(r.Uint64())>>r.Intn(64))
	}
	for _, v := range l {
		if n := Double(v); n != math.Float64bits(float64(v)) {
			t.Errorf("Double(%d): %x", v, n)
		}
		if n := Float(v); n != math.Float32bits(float32(v)) {
			t.Errorf("Float(%d): %x", v, n)
		}
	}
}

// P2.2
func TestWiden(t *testing.T) {
	r := rand.New(rand.NewSource(3))
	l := []uint32{0, 1 << 31, 1, 1<<31 | 1, 1<<23 - 1, 1 << 23, 0x7f800000, 0xff800000, 0x3f800000, 0x7f7fffff}
	for range 20000 {
		l = append(l, r.Uint32(), r.Uint32()>>9>>r.Intn(23))
	}
	for _, f := range l {
		if f&0x7f800000 == 0x7f800000 {
			continue
		}
		if n := Widen(f); n != math.Float64bits(float64(math.Float32frombits(f))) {
			t.Errorf("Widen(%x): %x", f, n)
		}
	}
	for f, want := range map[uint32]uint64{
		0x7f800000: 0x7ff0000000000000,
		0xff800000: 0xfff0000000000000,
		0x7fc00000: 0x7ff8000000000000,
		0x7f800001: 0x7ff0000020000000,
		0xffffffff: 0xffffffffe0000000,
	} {
		if n := Widen(f); n != want {
			t.Errorf("Widen(%x): %x", f, n)
		}
	}
}
