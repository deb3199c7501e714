package octet_test

import (
	"bytes"
	"encoding/binary"
	"fmt"
	"math"
	"testing"

	"shadowbook/octet"
)

// numbers are those at which an encoding may change: each power of two, and its neighbours.
func numbers() []uint64 {
	l := []uint64{0, 300, 0x0123456789abcdef, 0xfedcba9876543210, math.MaxUint64}
	for i := range 64 {
		p := uint64(1) << i
		l = append(l, p-1, p, p+1)
	}
	return l
}

// wantBytes fails unless got and want have the same bytes; nil and empty are the same.
func wantBytes(t *testing.T, what string, got, want []byte) {
	t.Helper()
	if !bytes.Equal(got, want) {
		t.Errorf("%s: % x, want % x", what, got, want)
	}
}

// wantFresh calls put with an argument that has spare capacity, and fails unless that is left alone, and the result shares nothing with it.
func wantFresh(t *testing.T, what string, put func(out []byte) []byte) {
	t.Helper()
	whole := bytes.Repeat([]byte{0xee}, 64)
	first, second := put(whole[:3]), put(whole[:3])
	wantBytes(t, what+" wrote its argument", whole, bytes.Repeat([]byte{0xee}, 64))
	first = first[:cap(first)]
	kept := bytes.Clone(first)
	for _, b := range [][]byte{whole, second[:cap(second)]} {
		for i := range b {
			b[i] = ^b[i]
		}
		wantBytes(t, what+" shares its result", first, kept)
	}
}

func TestPut(t *testing.T) { // P1.1
	const v = 0x8877665544332211
	want := []byte{0x11, 0x22, 0x33, 0x44, 0x55, 0x66, 0x77, 0x88}
	for n := 1; n <= 8; n++ {
		what := fmt.Sprint("Put ", n)
		wantBytes(t, what, octet.Put(nil, v, n), want[:n])
		wantBytes(t, what, octet.Put([]byte("ab"), v, n), append([]byte("ab"), want[:n]...))
		wantBytes(t, what, octet.Put([]byte{9}, 0, n), append([]byte{9}, make([]byte, n)...))
		wantFresh(t, what, func(out []byte) []byte { return octet.Put(out, v, n) })
	}
	for _, n := range []int{0, -1, 9, 16, 64, 1 << 32, math.MinInt, math.MaxInt} {
		what := fmt.Sprint("Put ", n)
		wantBytes(t, what, octet.Put([]byte("ab"), v, n), []byte("ab"))
		wantBytes(t, what, octet.Put(nil, v, n), nil)
		wantFresh(t, what, func(out []byte) []byte { return octet.Put(out, v, n) })
	}
}

func TestOf(t *testing.T) { // P1.1
	b := []byte{0x11, 0x22, 0x33, 0x44, 0x55, 0x66, 0x77, 0x88}
	for n := range 9 {
		want := uint64(0x8877665544332211)
		if n < 8 {
			want &= 1<<(8*n) - 1
		}
		if v := octet.Of(b[:n]); v != want {
			t.Errorf("Of %d bytes: %x, want %x", n, v, want)
		}
	}
	for _, n := range []int{9, 10, 100} {
		for _, c := range []byte{0, 1, 0xff} {
			if v := octet.Of(bytes.Repeat([]byte{c}, n)); v != 0 {
				t.Errorf("Of %d bytes %x: %x", n, c, v)
			}
		}
	}
	if v := octet.Of([]byte{1, 0, 0, 0, 0, 0, 0, 0, 0}); v != 0 {
		t.Errorf("Of nine bytes: %x", v)
	}
	if v := octet.Of(nil); v != 0 {
		t.Errorf("Of nothing: %x", v)
	}
}

func TestPutVar(t *testing.T) { // P1.1
	for _, x := range []struct {
		v    uint64
		want string
	}{
		{0, "\x00"},
		{1, "\x01"},
		{127, "\x7f"},
		{128, "\x80\x01"},
		{300, "\xac\x02"},
		{1<<14 - 1, "\xff\x7f"},
		{1 << 14, "\x80\x80\x01"},
		{1 << 56, "\x80\x80\x80\x80\x80\x80\x80\x80\x01"},
		{1<<63 - 1, "\xff\xff\xff\xff\xff\xff\xff\xff\x7f"},
		{1 << 63, "\x80\x80\x80\x80\x80\x80\x80\x80\x80\x01"},
		{math.MaxUint64, "\xff\xff\xff\xff\xff\xff\xff\xff\xff\x01"},
	} {
		wantBytes(t, fmt.Sprint("PutVar ", x.v), octet.PutVar(nil, x.v), []byte(x.want))
	}
	for _, v := range numbers() {
		what := fmt.Sprint("PutVar ", v)
		wantBytes(t, what, octet.PutVar([]byte("ab"), v), binary.AppendUvarint([]byte("ab"), v))
		wantFresh(t, what, func(out []byte) []byte { return octet.PutVar(out, v) })
	}
}

func TestZig(t *testing.T) { // P1.1
	for _, x := range []struct {
		n int64
		v uint64
	}{
		{0, 0}, {-1, 1}, {1, 2}, {-2, 3}, {2, 4}, {-3, 5},
		{math.MaxInt64, math.MaxUint64 - 1},
		{math.MinInt64, math.MaxUint64},
		{math.MinInt64 + 1, math.MaxUint64 - 2},
	} {
		if v := octet.Zig(x.n); v != x.v {
			t.Errorf("Zig %d: %d, want %d", x.n, v, x.v)
		}
		if n := octet.Zag(x.v); n != x.n {
			t.Errorf("Zag %d: %d, want %d", x.v, n, x.n)
		}
	}
	for _, v := range numbers() {
		if got := octet.Zig(octet.Zag(v)); got != v {
			t.Errorf("Zig of Zag of %d: %d", v, got)
		}
		if got := octet.Zag(octet.Zig(int64(v))); got != int64(v) {
			t.Errorf("Zag of Zig of %d: %d", int64(v), got)
		}
	}
}
