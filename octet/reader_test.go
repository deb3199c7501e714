package octet_test

import (
	"bytes"
	"fmt"
	"math"
	"testing"

	"shadowbook/api"
	"shadowbook/octet"
)

// wantRead fails unless reading gave v and e, and left as many bytes.
func wantRead(t *testing.T, what string, r *octet.Reader, read func() (uint64, api.Errno), v uint64, e api.Errno, left int) {
	t.Helper()
	gotV, gotE := read()
	if gotV != v || gotE != e || r.Left() != left {
		t.Errorf("%s: %d, error %d, %d left, want %d, error %d, %d left", what, gotV, gotE, r.Left(), v, e, left)
	}
}

func TestNewCopies(t *testing.T) { // P1.2
	b := []byte{1, 2, 3, 4}
	r := octet.New(b[:2])
	for i := range b {
		b[i] = 9
	}
	got, e := r.Bytes(2)
	if e != api.OK || !bytes.Equal(got, []byte{1, 2}) {
		t.Errorf("% x, error %d", got, e)
	}
	if _, e := r.Bytes(1); e != api.ErrMore {
		t.Errorf("the spare capacity of the argument was read: error %d", e)
	}
}

func TestNumber(t *testing.T) { // P1.2
	b := []byte{0x11, 0x22, 0x33, 0x44, 0x55, 0x66, 0x77, 0x88, 0x99}
	for n := 1; n <= 8; n++ {
		for have := range len(b) + 1 {
			r := octet.New(b[:have])
			v, e, left := octet.Of(b[:n]), api.OK, have-n
			if have < n {
				v, e, left = 0, api.ErrMore, have
			}
			wantRead(t, fmt.Sprintf("Number %d of %d bytes", n, have), r, func() (uint64, api.Errno) { return r.Number(n) }, v, e, left)
		}
	}
	r := octet.New([]byte{1, 2, 3})
	one := func() (uint64, api.Errno) { return r.Number(1) }
	wantRead(t, "first", r, one, 1, api.OK, 2)
	wantRead(t, "second and third", r, func() (uint64, api.Errno) { return r.Number(2) }, 0x302, api.OK, 0)
	wantRead(t, "fourth", r, one, 0, api.ErrMore, 0)
}

func TestNumberOfNoSize(t *testing.T) { // P1.2
	for _, n := range []int{0, -1, 9, 16, 1 << 32, math.MinInt, math.MaxInt} {
		for _, have := range []int{0, 5, 20} { // ErrArg comes before ErrMore
			r := octet.New(make([]byte, have))
			wantRead(t, fmt.Sprint("Number ", n), r, func() (uint64, api.Errno) { return r.Number(n) }, 0, api.ErrArg, have)
		}
	}
}

func TestVar(t *testing.T) { // P1.2
	nine := "\x80\x80\x80\x80\x80\x80\x80\x80\x80"
	full := "\xff\xff\xff\xff\xff\xff\xff\xff\xff"
	for _, x := range []struct {
		b    string
		v    uint64
		e    api.Errno
		left int
	}{
		{"\x00", 0, api.OK, 0},
		{"\x00\x07", 0, api.OK, 1},
		{"\x7f\x80", 127, api.OK, 1},
		{"\xac\x02", 300, api.OK, 0},
		{"\x80\x01\x00", 128, api.OK, 1},
		{full[:8] + "\x7f", 1<<63 - 1, api.OK, 0},
		{nine + "\x01", 1 << 63, api.OK, 0},
		{nine + "\x01\xff", 1 << 63, api.OK, 1},
		{full + "\x01", math.MaxUint64, api.OK, 0},
		{"", 0, api.ErrMore, 0},
		{"\x80", 0, api.ErrMore, 1},
		{"\xff\xff", 0, api.ErrMore, 2},
		{nine, 0, api.ErrMore, 9},
		{"\x80\x00", 0, api.ErrBad, 2},
		{"\x80\x00\x05", 0, api.ErrBad, 3},
		{"\xff\x80\x00", 0, api.ErrBad, 3},
		{nine[:8] + "\x00", 0, api.ErrBad, 9},
		{nine + "\x00", 0, api.ErrBad, 10},
		{nine + "\x02", 0, api.ErrBad, 10},
		{nine + "\x7f", 0, api.ErrBad, 10},
		{nine + "\x80", 0, api.ErrBad, 10},
		{nine + "\x81\x01", 0, api.ErrBad, 11},
		{nine + "\x80\x00", 0, api.ErrBad, 11},
		{full + "\xff\xff\xff", 0, api.ErrBad, 12},
	} {
		r := octet.New([]byte(x.b))
		for i := range 2 { // after an error the same again
			wantRead(t, fmt.Sprintf("Var % x", x.b), r, r.Var, x.v, x.e, x.left)
			if i == 0 && x.e == api.OK {
				break
			}
		}
	}
}

func TestBytes(t *testing.T) { // P1.2
	r := octet.New([]byte("abcd"))
	for _, x := range []struct {
		n    int
		want string
		e    api.Errno
		left int
	}{
		{-1, "", api.ErrArg, 4},
		{math.MinInt, "", api.ErrArg, 4},
		{5, "", api.ErrMore, 4},
		{math.MaxInt, "", api.ErrMore, 4},
		{0, "", api.OK, 4},
		{3, "abc", api.OK, 1},
		{2, "", api.ErrMore, 1},
		{1, "d", api.OK, 0},
		{0, "", api.OK, 0},
		{1, "", api.ErrMore, 0},
		{-1, "", api.ErrArg, 0},
	} {
		b, e := r.Bytes(x.n)
		if string(b) != x.want || e != x.e || r.Left() != x.left {
			t.Errorf("Bytes %d: %q, error %d, %d left", x.n, b, e, r.Left())
		}
	}
}

func TestBytesCopies(t *testing.T) { // P1.2
	r := octet.New([]byte("abcd"))
	first, _ := r.Bytes(2)
	_ = append(first, "xy"...)
	first[0] = 'z'
	if second, e := r.Bytes(2); e != api.OK || string(second) != "cd" {
		t.Errorf("%q, error %d", second, e)
	}
}

func TestInvalidReader(t *testing.T) { // P1.2
	made := octet.New([]byte{1, 2, 3})
	copied := *made
	for what, r := range map[string]*octet.Reader{"nil": nil, "zero": {}, "copied": &copied} {
		for _, n := range []int{-1, 0, 1, 9} { // ErrNil comes before ErrArg
			wantRead(t, what, r, func() (uint64, api.Errno) { return r.Number(n) }, 0, api.ErrNil, 0)
			if b, e := r.Bytes(n); len(b) != 0 || e != api.ErrNil {
				t.Errorf("%s: Bytes %d: % x, error %d", what, n, b, e)
			}
		}
		wantRead(t, what, r, r.Var, 0, api.ErrNil, 0)
	}
	wantRead(t, "made", made, made.Var, 1, api.OK, 2)
}

func TestReadAgain(t *testing.T) { // P1.3
	var b []byte
	for _, v := range numbers() {
		for n := 1; n <= 8; n++ {
			b = octet.Put(b, v, n)
		}
		b = octet.PutVar(b, v)
		b = octet.PutVar(b, octet.Zig(int64(v)))
	}
	r := octet.New(b)
	for _, v := range numbers() {
		for n := 1; n <= 8; n++ {
			if got, e := r.Number(n); e != api.OK || got != v<<(64-8*n)>>(64-8*n) {
				t.Fatalf("Number %d of %x: %x, error %d", n, v, got, e)
			}
		}
		if got, e := r.Var(); e != api.OK || got != v {
			t.Fatalf("Var of %d: %d, error %d", v, got, e)
		}
		if got, e := r.Var(); e != api.OK || octet.Zag(got) != int64(v) {
			t.Fatalf("Var of Zig of %d: %d, error %d", int64(v), got, e)
		}
	}
	if r.Left() != 0 {
		t.Errorf("%d bytes left", r.Left())
	}
}

// TestOneForm tries all short strings of bytes, and long ones of the bytes at which a varint can go wrong: what is read is what PutVar makes of it.
func TestOneForm(t *testing.T) { // P1.3
	try := func(b []byte) {
		r := octet.New(b)
		v, e := r.Var()
		if e != api.OK {
			return
		}
		if used := b[:len(b)-r.Left()]; !bytes.Equal(octet.PutVar(nil, v), used) {
			t.Errorf("% x is read as %d, which is % x", used, v, octet.PutVar(nil, v))
		}
	}
	for i := range 1 << 16 {
		try([]byte{byte(i), byte(i >> 8)})
	}
	edges := []byte{0, 1, 2, 0x7f, 0x80, 0x81, 0xff}
	for _, c := range []byte{0x80, 0x81, 0xff} {
		for n := range 12 {
			for _, x := range edges {
				for _, y := range edges {
					for _, z := range edges {
						try(append(bytes.Repeat([]byte{c}, n), x, y, z))
					}
				}
			}
		}
	}
}
