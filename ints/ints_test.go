package ints_test

import (
	"bytes"
	"encoding/binary"
	"fmt"
	"math"
	"math/bits"
	"math/rand/v2"
	"slices"
	"testing"

	"shadowbook/api"
	"shadowbook/ints"
)

const most = 4096 // numbers of a column

const (
	least    = math.MinInt64
	greatest = math.MaxInt64
)

// way is a function that puts columns, and what the document says of its bytes.
type way struct {
	name string
	put  func([]int64) ([]byte, api.Errno)
	want func([]int64) []byte
}

var ways = []way{
	{"Plain", ints.Plain, modelPlain},
	{"Runs", ints.Runs, modelRuns},
	{"Packed", ints.Packed, modelPacked},
	{"Put", ints.Put, modelPut},
}

func head(form byte, l []int64) []byte {
	return binary.AppendUvarint([]byte{form}, uint64(len(l)))
}

// eight is a number in eight bytes.
func eight(v int64) string {
	return string(binary.LittleEndian.AppendUint64(nil, uint64(v)))
}

func modelPlain(l []int64) []byte {
	b := head(1, l)
	for _, v := range l {
		b = append(b, eight(v)...)
	}
	return b
}

func modelRuns(l []int64) []byte {
	b := head(2, l)
	for i := 0; i < len(l); {
		k := i
		for k < len(l) && l[k] == l[i] {
			k++
		}
		b = append(binary.AppendUvarint(b, uint64(k-i)), eight(l[i])...)
		i = k
	}
	return b
}

func modelPacked(l []int64) []byte {
	base, all := int64(0), uint64(0)
	if len(l) > 0 {
		base = slices.Min(l)
	}
	for _, v := range l {
		all |= uint64(v - base)
	}
	width := bits.Len64(all)
	packed := make([]byte, (len(l)*width+7)/8)
	for k := range len(l) * width {
		packed[k/8] |= byte(uint64(l[k/width]-base)>>(k%width)&1) << (k % 8)
	}
	return append(append(append(head(3, l), eight(base)...), byte(width)), packed...)
}

func modelPut(l []int64) []byte {
	b := modelPlain(l)
	for _, other := range [][]byte{modelRuns(l), modelPacked(l)} {
		if len(other) < len(b) {
			b = other
		}
	}
	return b
}

// columns are those at which an encoding may change.
func columns() [][]int64 {
	r := rand.New(rand.NewPCG(6, 1))
	all := [][]int64{
		nil, {0}, {1}, {-1}, {least}, {greatest}, {7, 7, 7, 7}, {5, 6}, {6, 5}, {0, 1}, {-1, 0}, {0, -1, 0},
		{least, greatest}, {greatest, least}, {least, 0}, {0, least}, {-1, least}, {greatest, -1}, {greatest - 1, greatest}, {least, least + 1},
		{1, 1, 2, 2, 1, 1}, {1, 2, 2, 2, 3}, {3, 3, 3, 2, 1, 1},
	}
	for _, n := range []int{1, 2, 3, 7, 8, 9, 10, 127, 128, 129, 255, 256, 1000, most - 1, most} {
		for _, width := range []int{0, 1, 2, 7, 8, 9, 31, 32, 33, 56, 63, 64} {
			base := int64(r.Uint64()) >> r.IntN(64)
			l, stairs := make([]int64, n), make([]int64, n)
			for i := range n {
				l[i] = base + int64(r.Uint64()>>(64-width))
				stairs[i] = l[i/8*8]
			}
			all = append(all, l, stairs)
		}
	}
	for _, n := range []int{126, 127, 128, 129, 1000} { // runs at whose length the varint becomes longer
		all = append(all, slices.Concat(slices.Repeat([]int64{3}, n), slices.Repeat([]int64{least}, n), slices.Repeat([]int64{3}, n-126)))
	}
	return all
}

// small are all columns of up to that many of the numbers.
func small(n int, of ...int64) [][]int64 {
	all := [][]int64{nil}
	for from := 0; n > 0; n-- {
		to := len(all)
		for _, l := range all[from:to] {
			for _, v := range of {
				all = append(all, append(slices.Clone(l), v))
			}
		}
		from = to
	}
	return all
}

// short is a column as an error shows it.
func short(l []int64) string {
	return fmt.Sprintf("%d numbers %v", len(l), l[:min(len(l), 8)])
}

// wantPut fails unless each way puts the column as the document says, and the numbers are got again.
func wantPut(t *testing.T, l []int64) {
	t.Helper()
	for _, w := range ways {
		want := w.want(l)
		b, e := w.put(l)
		if e != api.OK || !bytes.Equal(b, want) {
			t.Errorf("%s of %s: % x, error %d, want % x", w.name, short(l), b[:min(len(b), 40)], e, want[:min(len(want), 40)])
			continue
		}
		wantGot(t, b, l)
	}
}

// wantGot fails unless Get and Count tell those numbers.
func wantGot(t *testing.T, b []byte, l []int64) {
	t.Helper()
	got, e := ints.Get(b)
	if e != api.OK || !slices.Equal(got, l) {
		t.Errorf("Get of % x: %s, error %d, want %s", b[:min(len(b), 40)], short(got), e, short(l))
	}
	if n, e := ints.Count(b); e != api.OK || n != len(l) {
		t.Errorf("Count of % x: %d, error %d, want %d", b[:min(len(b), 40)], n, e, len(l))
	}
}

// wantBad fails unless Get and Count return ErrBad, and nothing beside it.
func wantBad(t *testing.T, what string, b []byte) {
	t.Helper()
	if l, e := ints.Get(b); e != api.ErrBad || len(l) != 0 {
		t.Errorf("Get of % x (%s): %s, error %d", b[:min(len(b), 40)], what, short(l), e)
	}
	if n, e := ints.Count(b); e != api.ErrBad || n != 0 {
		t.Errorf("Count of % x (%s): %d, error %d", b[:min(len(b), 40)], what, n, e)
	}
}

// wantTrue fails unless bytes are either refused, or those that the document gives to the numbers that are got.
func wantTrue(t *testing.T, b []byte) {
	t.Helper()
	l, e := ints.Get(b)
	if e != api.OK {
		wantBad(t, "wrong", b)
		return
	}
	if form := int(b[0]); form < 1 || form > 3 || len(l) > most || !bytes.Equal(ways[form-1].want(l), b) {
		t.Errorf("Get of % x: %s, of which these are not the bytes", b[:min(len(b), 40)], short(l))
	}
	wantGot(t, b, l)
}

// The chapter's examples.
func TestExamples(t *testing.T) {
	for _, c := range []struct {
		l    []int64
		want string
	}{
		{[]int64{7, 7, 7, 7}, "\x02\x04\x04\x07\x00\x00\x00\x00\x00\x00\x00"},
		{[]int64{5, 6}, "\x03\x02\x05\x00\x00\x00\x00\x00\x00\x00\x01\x02"},
	} {
		b, e := ints.Put(c.l)
		if e != api.OK || string(b) != c.want {
			t.Errorf("Put of %v: % x, error %d", c.l, b, e)
		}
		wantGot(t, []byte(c.want), c.l)
	}
}

// P6.1
func TestByHand(t *testing.T) {
	const ones = "\xff\xff\xff\xff\xff\xff\xff\xff"
	const zeros = "\x00\x00\x00\x00\x00\x00\x00\x00"
	for _, c := range []struct {
		l                   []int64
		plain, runs, packed string
		put                 int
	}{
		{nil, "\x01\x00", "\x02\x00", "\x03\x00" + zeros + "\x00", 1},
		{[]int64{-1}, "\x01\x01" + ones, "\x02\x01\x01" + ones, "\x03\x01" + ones + "\x00", 1},
		{[]int64{-1, -1}, "\x01\x02" + ones + ones, "\x02\x02\x02" + ones, "\x03\x02" + ones + "\x00", 2},
		{[]int64{0, -1}, "\x01\x02" + zeros + ones, "\x02\x02\x01" + zeros + "\x01" + ones, "\x03\x02" + ones + "\x01\x01", 3},
		{[]int64{3, -1, 2, 2}, "\x01\x04\x03" + zeros[1:] + ones + "\x02" + zeros[1:] + "\x02" + zeros[1:], "\x02\x04\x01\x03" + zeros[1:] + "\x01" + ones + "\x02\x02" + zeros[1:], "\x03\x04" + ones + "\x03\xc4\x06", 3},
		{[]int64{greatest, least}, "\x01\x02" + ones[1:] + "\x7f" + zeros[1:] + "\x80", "\x02\x02\x01" + ones[1:] + "\x7f\x01" + zeros[1:] + "\x80", "\x03\x02" + zeros[1:] + "\x80\x40" + ones + zeros, 1},
	} {
		wants := []string{c.plain, c.runs, c.packed}
		wants = append(wants, wants[c.put-1])
		for i, w := range ways {
			b, e := w.put(c.l)
			if e != api.OK || string(b) != wants[i] {
				t.Errorf("%s of %v: % x, error %d, want % x", w.name, c.l, b, e, wants[i])
			}
			wantGot(t, []byte(wants[i]), c.l)
		}
	}
}

// P6.1, P6.3
func TestColumns(t *testing.T) {
	for _, l := range columns() {
		wantPut(t, l)
	}
	for _, l := range small(6, -1, 0, 5) {
		wantPut(t, l)
	}
	for _, l := range small(4, least, -1, 0, 1, greatest) {
		wantPut(t, l)
	}
}

// P6.1
func TestLong(t *testing.T) {
	for _, n := range []int{most + 1, most + 2, 2 * most, 1 << 16, 1<<16 + 1} {
		rising := make([]int64, n)
		for i := range rising {
			rising[i] = int64(i)
		}
		for _, l := range [][]int64{make([]int64, n), rising} {
			for _, w := range ways {
				if b, e := w.put(l); e != api.ErrLong || len(b) != 0 {
					t.Errorf("%s of %s: %d bytes, error %d", w.name, short(l), len(b), e)
				}
			}
		}
	}
}

// P6.1: of encodings of the same length Put takes the first.
func TestPutTies(t *testing.T) {
	for _, c := range []struct {
		l        []int64
		shortest string // the forms
	}{
		{[]int64{0, 1<<56 - 1, 1, 5, 2, 6, 3, 7, 4}, "\x01\x03"},
		{[]int64{least, least, greatest, 0, 1, 2, 3, 4, 5}, "\x01\x02"},
		{[]int64{0, 0, 1<<56 - 1, 1, 5, 2, 6, 3, 7}, "\x01\x02\x03"},
		{[]int64{9, 9, 9}, "\x02\x03"},
		{slices.Concat(slices.Repeat([]int64{1}, 36), slices.Repeat([]int64{2}, 36)), "\x02\x03"},
	} {
		b, e := ints.Put(c.l)
		if e != api.OK || b[0] != c.shortest[0] {
			t.Errorf("Put of %s: % x, error %d, want form %d", short(c.l), b, e, c.shortest[0])
		}
		got := ""
		for _, w := range ways[:3] {
			if other, _ := w.put(c.l); len(other) == len(b) {
				got += string(other[:1])
			} else if len(other) < len(b) {
				t.Errorf("%s of %s: %d bytes, Put %d", w.name, short(c.l), len(other), len(b))
			}
		}
		if got != c.shortest {
			t.Errorf("%s: as short as Put are the forms % x, want % x", short(c.l), got, c.shortest)
		}
	}
}

// P6.1: each form is the shortest of some column, also of many numbers.
func TestPutShortest(t *testing.T) {
	far, near, stairs := make([]int64, most), make([]int64, most), make([]int64, most)
	for i := range most {
		far[i] = int64(uint64(i) * 0x9e3779b97f4a7c15)
		near[i] = least + int64(i)
		stairs[i] = far[i/100]
	}
	for form, l := range [][]int64{far, stairs, near} {
		if b, e := ints.Put(l); e != api.OK || b[0] != byte(form+1) {
			t.Errorf("form %d, error %d, want form %d", b[0], e, form+1)
		}
		wantPut(t, l)
	}
}

// P6.2: wrong bytes, named by what is wrong.
func TestBad(t *testing.T) {
	zero, one, two := eight(0), eight(1), eight(2)
	for _, c := range []struct{ what, b string }{
		{"nothing", ""},
		{"form alone", "\x01"},
		{"form alone", "\x02"},
		{"form alone", "\x03"},
		{"form 0", "\x00\x00"},
		{"form 0", "\x00\x01" + one},
		{"form 4", "\x04\x00"},
		{"form 4", "\x04\x01" + one},
		{"form 255", "\xff\x00"},
		{"half a varint", "\x01\x80"},
		{"a varint too long", "\x01\x80\x00"},
		{"a varint too long", "\x01\x81\x00" + one},
		{"a varint of eleven bytes", "\x01\x80\x80\x80\x80\x80\x80\x80\x80\x80\x80\x01"},
		{"plain: 2^32 numbers", "\x01\x80\x80\x80\x80\x10"},
		{"plain: 2^61 numbers", "\x01\x80\x80\x80\x80\x80\x80\x80\x80\x20"},
		{"plain: 2^63 numbers", "\x01\x80\x80\x80\x80\x80\x80\x80\x80\x80\x01"},
		{"plain: 2^64 - 1 numbers", "\x01\xff\xff\xff\xff\xff\xff\xff\xff\xff\x01"},
		{"runs: 2^63 numbers", "\x02\x80\x80\x80\x80\x80\x80\x80\x80\x80\x01"},
		{"runs: 2^64 - 1 numbers", "\x02\xff\xff\xff\xff\xff\xff\xff\xff\xff\x01\xff\xff\xff\xff\xff\xff\xff\xff\xff\x01" + one},
		{"packed: 2^63 numbers", "\x03\x80\x80\x80\x80\x80\x80\x80\x80\x80\x01" + zero + "\x00"},
		{"packed: 2^64 - 1 numbers", "\x03\xff\xff\xff\xff\xff\xff\xff\xff\xff\x01" + zero + "\x00"},
		{"plain: no number", "\x01\x01"},
		{"plain: half a number", "\x01\x01" + one[:7]},
		{"plain: one number of two", "\x01\x02" + one},
		{"plain: a byte more", "\x01\x01" + one + "\x00"},
		{"plain: a number more", "\x01\x01" + one + one},
		{"plain: a number more", "\x01\x00" + zero},
		{"runs: none", "\x02\x01"},
		{"runs: no number", "\x02\x01\x01"},
		{"runs: half a number", "\x02\x01\x01" + one[:7]},
		{"runs: too few numbers", "\x02\x03\x02" + one},
		{"runs: too many numbers", "\x02\x03\x04" + one},
		{"runs: too many numbers", "\x02\x03\x02" + one + "\x02" + two},
		{"runs: an empty one", "\x02\x00\x00" + one},
		{"runs: an empty one", "\x02\x01\x00" + one},
		{"runs: an empty one first", "\x02\x02\x00" + one + "\x02" + two},
		{"runs: an empty one last", "\x02\x02\x02" + one + "\x00" + two},
		{"runs: an empty one between", "\x02\x02\x01" + one + "\x00" + zero + "\x01" + two},
		{"runs: one in two", "\x02\x02\x01" + one + "\x01" + one},
		{"runs: one in two", "\x02\x04\x01" + two + "\x02" + one + "\x01" + one},
		{"runs: one more", "\x02\x01\x01" + one + "\x01" + two},
		{"runs: a byte more", "\x02\x01\x01" + one + "\x00"},
		{"runs: a byte more", "\x02\x00\x00"},
		{"runs: a varint too long", "\x02\x02\x82\x00" + one},
		{"runs: 2^63 numbers", "\x02\x02\x80\x80\x80\x80\x80\x80\x80\x80\x80\x01" + one},
		{"runs: 2^64 - 1 numbers", "\x02\x02\xff\xff\xff\xff\xff\xff\xff\xff\xff\x01" + one},
		{"runs: one number, and 2^64 - 1 and two more", "\x02\x02\x01" + one + "\xff\xff\xff\xff\xff\xff\xff\xff\xff\x01" + two + "\x02" + one},
		{"packed: nothing", "\x03\x01"},
		{"packed: nothing", "\x03\x00"},
		{"packed: half a number", "\x03\x01" + one[:7]},
		{"packed: no width", "\x03\x01" + one},
		{"packed: no width", "\x03\x00" + zero},
		{"packed: no numbers, smallest 1", "\x03\x00" + one + "\x00"},
		{"packed: no numbers, smallest -1", "\x03\x00" + eight(-1) + "\x00"},
		{"packed: no numbers, width 1", "\x03\x00" + zero + "\x01"},
		{"packed: no numbers, width 64", "\x03\x00" + zero + "\x40"},
		{"packed: no numbers, width 65", "\x03\x00" + zero + "\x41"},
		{"packed: width 0, and a byte", "\x03\x01" + one + "\x00\x00"},
		{"packed: a width too great", "\x03\x01" + one + "\x01\x00"},
		{"packed: a width too great", "\x03\x02" + one + "\x02\x04"},
		{"packed: a width too great", "\x03\x02" + one + "\x40" + zero + one},
		{"packed: width 65", "\x03\x01" + one + "\x41"},
		{"packed: width 65", "\x03\x01" + one + "\x41" + zero + "\x00"},
		{"packed: width 255", "\x03\x01" + one + "\xff"},
		{"packed: a byte less", "\x03\x02" + one + "\x08\x00"},
		{"packed: a byte more", "\x03\x02" + one + "\x01\x02\x00"},
		{"packed: an unused bit", "\x03\x02" + one + "\x01\x06"},
		{"packed: an unused bit", "\x03\x02" + one + "\x01\x82"},
		{"packed: the smallest is none of them", "\x03\x02" + one + "\x01\x03"},
		{"packed: the smallest is none of them", "\x03\x01" + one + "\x01\x01"},
		{"packed: the smallest is none of them", "\x03\x02" + one + "\x08\x02\xff"},
		{"packed: beyond the greatest number there is", "\x03\x02" + eight(greatest) + "\x01\x02"},
		{"packed: beyond the greatest number there is", "\x03\x02" + one + "\x40" + zero + eight(greatest)},
		{"packed: beyond the greatest number there is", "\x03\x02" + eight(-1) + "\x40" + zero + eight(-1)},
		{"packed: beyond the greatest number there is", "\x03\x02" + zero + "\x40" + zero + eight(least)},
	} {
		wantBad(t, c.what, []byte(c.b))
	}
	wantGot(t, []byte("\x03\x02"+zero+"\x3f\x00\x00\x00\x00\x00\x00\x00\x80\xff\xff\xff\xff\xff\xff\xff\x3f"), []int64{0, greatest})
	wantGot(t, []byte("\x03\x02"+eight(least)+"\x40"+zero+eight(-1)), []int64{least, greatest})
}

// P6.2: as many numbers as there can be, and more.
func TestMostNumbers(t *testing.T) {
	for _, n := range []int{most - 1, most, most + 1, 2 * most, 1 << 16} {
		l := slices.Repeat([]int64{4}, n)
		for _, w := range ways {
			b := w.want(l)
			if n > most {
				wantBad(t, "too many numbers", b)
			} else {
				wantGot(t, b, l)
			}
		}
	}
}

// P6.2: what is cut off, what is added, and one byte in place of another.
func TestChangedBytes(t *testing.T) {
	few := append(small(3, least, 0, 1, 300), []int64{5, 5, 5, 5, 5, 6}, []int64{1, 2, 3, 4, 5, 6, 7, 8, 9}, []int64{greatest, greatest - 1, greatest}, slices.Repeat([]int64{2}, 200))
	for _, l := range few {
		for _, w := range ways[:3] {
			b := w.want(l)
			for n := range b {
				wantBad(t, "cut off", b[:n]) // what is missing is in the spare capacity
			}
			for _, more := range []string{"\x00", "\x01", "\xff", eight(0), "\x01" + eight(0), string(b)} {
				wantBad(t, "added", append(bytes.Clone(b), more...))
			}
			for i := range b {
				other := bytes.Clone(b)
				for _, c := range []byte{0, 1, 2, 3, 4, 5, 8, 63, 64, 65, 127, 128, 129, 254, 255, b[i] + 1, b[i] - 1, b[i] ^ 128} {
					other[i] = c
					wantTrue(t, other)
				}
			}
		}
	}
}

// P6.2: bytes by chance behind a head that may be right.
func TestAnyBytes(t *testing.T) {
	r := rand.New(rand.NewPCG(6, 2))
	for range 20000 {
		b := []byte{byte(r.IntN(5)), byte(r.IntN(4))}
		for range r.IntN(30) {
			b = append(b, byte(r.Uint64()>>r.IntN(64)))
		}
		wantTrue(t, b)
	}
	for n := range 1 << 16 { // every head, with nothing behind it
		wantTrue(t, []byte{byte(n), byte(n >> 8)})
	}
	for form := byte(1); form <= 3; form++ { // every smallest number and width of one byte, with one byte behind it
		for n := range 1 << 16 {
			wantTrue(t, slices.Concat([]byte{form, 3}, []byte{9, 0, 0, 0, 0, 0, 0, 0}, []byte{byte(n), byte(n >> 8)}))
		}
	}
}

// P6.2: for three numbers in two bits each, only the width of the greatest, unused bits of 0, and a smallest number that is there.
func TestEveryPacked(t *testing.T) {
	for c := range 256 {
		b := []byte("\x03\x03" + eight(-7) + "\x02" + string([]byte{byte(c)}))
		v := []int64{int64(c & 3), int64(c >> 2 & 3), int64(c >> 4 & 3)}
		if c < 64 && slices.Min(v) == 0 && slices.Max(v) >= 2 {
			wantGot(t, b, []int64{v[0] - 7, v[1] - 7, v[2] - 7})
		} else {
			wantBad(t, "packed", b)
		}
	}
}

// P6.1, P6.2: arguments are left alone, with their spare capacity, and no two results share memory.
func TestNewMemory(t *testing.T) {
	for _, l := range [][]int64{nil, {4}, {4, 4, 4}, {9, 5, 9, 6}, {0, least, greatest}} {
		for _, w := range ways {
			whole := append(slices.Clone(l), 1, 1, 1)
			kept := slices.Clone(whole)
			first, _ := w.put(whole[:len(l)])
			second, _ := w.put(whole[:len(l)])
			if !slices.Equal(whole, kept) {
				t.Errorf("%s changed its argument", w.name)
			}
			b := append(bytes.Clone(first), 1, 2, 3)
			spare := bytes.Clone(b)
			got, _ := ints.Get(b[:len(first)])
			again, _ := ints.Get(b[:len(first)])
			if n, _ := ints.Count(b[:len(first)]); n != len(l) || !bytes.Equal(b, spare) {
				t.Error("Get or Count read the spare capacity, or changed its argument")
			}
			clear(second[:cap(second)])
			clear(again[:cap(again)])
			clear(b)
			clear(whole)
			if !bytes.Equal(first, w.want(l)) || !slices.Equal(got, l) {
				t.Errorf("%s or Get: results share memory", w.name)
			}
		}
	}
}

// P6.3: with numbers that are near, far, or the same as the one before.
func TestPutThenGet(t *testing.T) {
	r := rand.New(rand.NewPCG(6, 3))
	for range 3000 {
		l := make([]int64, r.IntN(300)>>r.IntN(7))
		shift, base, same := r.IntN(65), int64(r.Uint64()), r.IntN(10)
		for i := range l {
			l[i] = base + int64(r.Uint64()>>shift)
			if i > 0 && r.IntN(10) < same {
				l[i] = l[i-1]
			}
		}
		wantPut(t, l)
	}
}
