package packs_test

import (
	"bytes"
	"iter"
	"math"
	"math/rand/v2"
	"slices"
	"testing"

	"shadowbook/api"
	"shadowbook/packs"
)

const most = 1 << 16 // numbers that can be packed

// edges are numbers of bits and of numbers far beyond the limits, some of which overflow when they are multiplied.
var edges = []int{math.MinInt, math.MinInt + 1, -1 << 32, -65, -64, -8, -1, 1 << 32, 1 << 61, 1<<61 + 1, math.MaxInt / 8, math.MaxInt - 7, math.MaxInt}

// badCounts are numbers of numbers that are out of range.
var badCounts = append([]int{most + 1, most + 8, 2 * most}, edges...)

// badWidths are numbers of bits that are out of range.
var badWidths = append([]int{65, 66, 72, 128, 256, most}, edges...)

// counts are the ends of the range, and numbers around whole bytes.
var counts = []int{0, 1, 2, 3, 7, 8, 9, 15, 16, 17, 63, 64, 65, 100, most - 1, most}

// greatest is the greatest number of that many bits.
func greatest(width int) uint64 {
	if width == 0 {
		return 0
	}
	return math.MaxUint64 >> (64 - width)
}

// columns are numbers that fit into a width: all zeros, all ones, ones by turns, and a mixture.
func columns(n, width int) [][]uint64 {
	top := greatest(width)
	r := rand.New(rand.NewPCG(uint64(n), uint64(width)))
	zeros, ones, turns, mixed := make([]uint64, n), make([]uint64, n), make([]uint64, n), make([]uint64, n)
	for i := range n {
		ones[i] = top
		turns[i] = top * uint64(i%2)
		mixed[i] = r.Uint64() & top
	}
	return [][]uint64{zeros, ones, turns, mixed}
}

// model is what the document says of packed numbers, bit by bit, for those that fit.
func model(l []uint64, width int) []byte {
	b := make([]byte, (len(l)*width+7)/8)
	for k := range len(l) * width {
		b[k/8] |= byte(l[k/width]>>(k%width)&1) << (k % 8)
	}
	return b
}

// put is the packed numbers, or the end of the test.
func put(t *testing.T, l []uint64, width int) []byte {
	t.Helper()
	b, e := packs.Put(l, width)
	if e != api.OK {
		t.Fatalf("Put of %d numbers in %d bits: error %d", len(l), width, e)
	}
	return b
}

// wantNumbers fails unless Get and Each give those numbers.
func wantNumbers(t *testing.T, b []byte, width int, l []uint64) {
	t.Helper()
	got, e := packs.Get(b, len(l), width)
	if e != api.OK || !slices.Equal(got, l) {
		t.Errorf("Get of %d numbers in %d bits: other numbers, or error %d", len(l), width, e)
	}
	wantEach(t, packs.Each(b, len(l), width), l)
}

// wantEach fails unless the numbers come one by one, with their indexes.
func wantEach(t *testing.T, each iter.Seq2[int, uint64], l []uint64) {
	t.Helper()
	next := 0
	for i, v := range each {
		if next == len(l) || i != next || v != l[i] {
			t.Errorf("Each of %d numbers: %d at %d, as number %d", len(l), v, i, next)
			return
		}
		next++
	}
	if next != len(l) {
		t.Errorf("Each: %d numbers, want %d", next, len(l))
	}
}

// wantNoBytes fails unless Put returns that error, and nothing beside it.
func wantNoBytes(t *testing.T, l []uint64, width int, want api.Errno) {
	t.Helper()
	if b, e := packs.Put(l, width); e != want || len(b) != 0 {
		t.Errorf("Put of %d numbers in %d bits: %d bytes, error %d, want %d", len(l), width, len(b), e, want)
	}
}

// wantNoNumbers fails unless Get returns that error and nothing beside it, and Each yields nothing.
func wantNoNumbers(t *testing.T, b []byte, n, width int, want api.Errno) {
	t.Helper()
	if l, e := packs.Get(b, n, width); e != want || len(l) != 0 {
		t.Errorf("Get of %d bytes, %d numbers in %d bits: %d numbers, error %d, want %d", len(b), n, width, len(l), e, want)
	}
	for i, v := range packs.Each(b, n, width) {
		t.Errorf("Each of %d bytes, %d numbers in %d bits: %d at %d", len(b), n, width, v, i)
		return
	}
}

// The chapter's example.
func TestExample(t *testing.T) {
	l := []uint64{1, 2, 3}
	b := put(t, l, 2)
	if string(b) != "\x39" {
		t.Errorf("% x", b)
	}
	wantNumbers(t, b, 2, l)
}

// P5.1
func TestWidth(t *testing.T) {
	if packs.Width(nil) != 0 || packs.Width([]uint64{}) != 0 || packs.Width(make([]uint64, 5)) != 0 {
		t.Error("no numbers, or only zeros, have bits")
	}
	for width := 1; width <= 64; width++ {
		least := uint64(1) << (width - 1)
		for _, v := range []uint64{least, greatest(width)} {
			for _, l := range [][]uint64{{v}, {v, 0, 0}, {0, v, 0}, {0, least - 1, v}, {v, v}} {
				if got := packs.Width(l); got != width {
					t.Errorf("Width %x: %d, want %d", l, got, width)
				}
			}
		}
	}
}

// P5.1: Width has no limit.
func TestWidthOfMany(t *testing.T) {
	l := make([]uint64, most+5)
	l[most+4] = 1 << 40
	if got := packs.Width(l); got != 41 {
		t.Errorf("%d", got)
	}
}

// P5.1
func TestSize(t *testing.T) {
	for width := range 65 {
		for _, n := range counts {
			size, left := n*width/8, n*width%8
			if left > 0 {
				size++
			}
			if got := packs.Size(n, width); got != size {
				t.Errorf("Size of %d numbers in %d bits: %d, want %d", n, width, got, size)
			}
		}
	}
}

// P5.1
func TestSizeOutOfRange(t *testing.T) {
	wantZero := func(n, width int) {
		if got := packs.Size(n, width); got != 0 {
			t.Errorf("Size of %d numbers in %d bits: %d", n, width, got)
		}
	}
	for _, n := range badCounts {
		for _, width := range append([]int{0, 1, 7, 8, 63, 64}, badWidths...) {
			wantZero(n, width)
		}
	}
	for _, width := range badWidths {
		for _, n := range counts {
			wantZero(n, width)
		}
	}
}

// P5.1
func TestPutByHand(t *testing.T) {
	cases := []struct {
		l     []uint64
		width int
		want  string
	}{
		{nil, 0, ""},
		{nil, 64, ""},
		{[]uint64{0, 0, 0}, 0, ""},
		{[]uint64{0, 0, 0}, 1, "\x00"},
		{[]uint64{1}, 1, "\x01"},
		{[]uint64{1}, 8, "\x01"},
		{[]uint64{1}, 9, "\x01\x00"},
		{[]uint64{1, 0, 1, 1, 0, 0, 0, 1, 1}, 1, "\x8d\x01"},
		{[]uint64{5, 6, 7}, 3, "\xf5\x01"},
		{[]uint64{0xab, 0xcd}, 8, "\xab\xcd"},
		{[]uint64{0x123, 0x456}, 12, "\x23\x61\x45"},
		{[]uint64{0x0123456789abcdef}, 64, "\xef\xcd\xab\x89\x67\x45\x23\x01"},
		{[]uint64{math.MaxInt64, 1}, 63, "\xff\xff\xff\xff\xff\xff\xff\xff\x00\x00\x00\x00\x00\x00\x00\x00"},
	}
	for _, c := range cases {
		b := put(t, c.l, c.width)
		if string(b) != c.want {
			t.Errorf("Put %x in %d bits: % x, want % x", c.l, c.width, b, c.want)
		}
		wantNumbers(t, b, c.width, c.l)
	}
}

// P5.1
func TestPutBytes(t *testing.T) {
	for width := range 65 {
		for n := range 40 {
			for _, l := range columns(n, width) {
				if got, want := put(t, l, width), model(l, width); !bytes.Equal(got, want) {
					t.Fatalf("Put %x in %d bits: % x, want % x", l, width, got, want)
				}
			}
		}
	}
}

// P5.1, P5.2, P5.3: as many numbers as there can be.
func TestMost(t *testing.T) {
	for _, width := range []int{0, 1, 5, 8, 13, 63, 64} {
		for _, n := range []int{most - 1, most} {
			for _, l := range columns(n, width) {
				b := put(t, l, width)
				if !bytes.Equal(b, model(l, width)) {
					t.Errorf("Put of %d numbers in %d bits: other bytes", n, width)
				}
				wantNumbers(t, b, width, l)
			}
		}
	}
}

// P5.1: what is out of range comes ahead of numbers that are too long.
func TestPutOutOfRange(t *testing.T) {
	for _, v := range []uint64{0, 1, math.MaxUint64} {
		for _, width := range badWidths {
			for _, n := range []int{0, 1, 3} {
				wantNoBytes(t, slices.Repeat([]uint64{v}, n), width, api.ErrArg)
			}
		}
		for _, n := range []int{most + 1, most + 8, 2 * most} {
			for _, width := range []int{0, 1, 8, 64, -1, 65} {
				wantNoBytes(t, slices.Repeat([]uint64{v}, n), width, api.ErrArg)
			}
		}
	}
}

// P5.1
func TestPutLong(t *testing.T) {
	for width := range 64 {
		for _, v := range []uint64{greatest(width) + 1, greatest(width) + 2, 1 << 63, math.MaxUint64} {
			for _, l := range [][]uint64{{v}, {v, 0}, {0, v}, {0, v, 0}, {v, v}} {
				wantNoBytes(t, l, width, api.ErrLong)
			}
		}
	}
	l := make([]uint64, most)
	l[most-1] = 2
	wantNoBytes(t, l, 1, api.ErrLong)
}

// P5.2, P5.3
func TestGet(t *testing.T) {
	for width := range 65 {
		for n := range 40 {
			for _, l := range columns(n, width) {
				wantNumbers(t, model(l, width), width, l)
				wantNumbers(t, put(t, l, width), width, l)
			}
		}
	}
}

// P5.2: what is out of range comes ahead of bytes that are wrong.
func TestGetOutOfRange(t *testing.T) {
	for _, b := range [][]byte{nil, {}, {0}, {255}, make([]byte, 8), make([]byte, 8192), make([]byte, 8193)} {
		for _, n := range badCounts {
			for _, width := range []int{0, 1, 8, 64, -1, 65} {
				wantNoNumbers(t, b, n, width, api.ErrArg)
			}
		}
		for _, width := range badWidths {
			for _, n := range []int{0, 1, 8, most} {
				wantNoNumbers(t, b, n, width, api.ErrArg)
			}
		}
	}
}

// P5.2: bytes of another length.
func TestGetBadLength(t *testing.T) {
	for width := range 65 {
		for _, n := range counts {
			size := (n*width + 7) / 8
			b := make([]byte, size+9)
			for _, have := range []int{0, size / 2, size - 8, size - 1, size + 1, size + 8} {
				if have >= 0 && have != size {
					wantNoNumbers(t, b[:have], n, width, api.ErrBad) // what is missing is in the spare capacity
				}
			}
		}
	}
}

// P5.2: each bit is one of a number, or must be 0.
func TestGetEveryBit(t *testing.T) {
	for width := range 65 {
		for n := range 20 {
			b := make([]byte, (n*width+7)/8)
			for k := range 8 * len(b) {
				b[k/8] = 1 << (k % 8)
				if k >= n*width {
					wantNoNumbers(t, b, n, width, api.ErrBad)
				} else {
					l := make([]uint64, n)
					l[k/width] = 1 << (k % width)
					wantNumbers(t, b, width, l)
				}
				b[k/8] = 0
			}
		}
	}
}

// P5.2: unused bits beside numbers whose bits are all 1, alone and together.
func TestGetBadBits(t *testing.T) {
	for width := range 65 {
		for _, n := range []int{1, 2, 3, 5, 7, 9, 21, most - 1} {
			free := (8 - n*width%8) % 8
			if free == 0 {
				continue
			}
			b := model(columns(n, width)[1], width)
			at := len(b) - 1
			full := b[at]
			for x := 1; x < 1<<free; x++ {
				b[at] = full | byte(x)<<(8-free)
				wantNoNumbers(t, b, n, width, api.ErrBad)
			}
		}
	}
}

// P5.2: numbers come one by one, so that no more are asked for than are wanted.
func TestEachStops(t *testing.T) {
	for _, width := range []int{0, 3, 8, 61, 64} {
		l := columns(20, width)[3]
		each := packs.Each(put(t, l, width), 20, width)
		for stop := range 20 {
			asked := 0
			for i, v := range each {
				if i != asked || v != l[i] {
					t.Errorf("%d at %d, want %d at %d", v, i, l[asked], asked)
				}
				asked++
				if i == stop {
					break
				}
			}
			if asked != stop+1 {
				t.Errorf("%d numbers, stopped at %d", asked, stop)
			}
		}
		wantEach(t, each, l)
		wantEach(t, each, l)
	}
}

// P5.2: the same numbers are gone through twice at once.
func TestEachTwice(t *testing.T) {
	l := columns(12, 11)[3]
	each := packs.Each(put(t, l, 11), 12, 11)
	for i, v := range each {
		wantEach(t, each, l)
		if v != l[i] {
			t.Errorf("%d at %d, want %d", v, i, l[i])
		}
	}
	next, stop := iter.Pull2(each)
	defer stop()
	for range 5 {
		next()
	}
	wantEach(t, each, l)
	if i, v, ok := next(); !ok || i != 5 || v != l[5] {
		t.Errorf("%d at %d, want %d at 5", v, i, l[5])
	}
}

// P5.2: what Each yields is that of the bytes as they were when it was called.
func TestEachCopies(t *testing.T) {
	l := columns(30, 7)[3]
	b := put(t, l, 7)
	each := packs.Each(b, 30, 7)
	b[26] |= 128
	wrong := packs.Each(b, 30, 7)
	b[26] &= 127
	wantEach(t, wrong, nil)
	for i := range b {
		b[i] = ^b[i]
	}
	wantEach(t, each, l)
	for i := range each {
		b[i%len(b)]++
	}
	wantEach(t, each, l)
}

// P5.1, P5.2: arguments are left alone, with their spare capacity, and no two results share memory.
func TestNewMemory(t *testing.T) {
	whole := columns(64, 9)[3]
	kept := slices.Clone(whole)
	first, second := put(t, whole[:21], 9), put(t, whole[:21], 9)
	if !slices.Equal(whole, kept) {
		t.Error("Put changed its argument")
	}
	bits := append(slices.Clone(first), 1, 2, 3)
	spare := slices.Clone(bits)
	got, _ := packs.Get(bits[:len(first)], 21, 9)
	again, _ := packs.Get(bits[:len(first)], 21, 9)
	wantEach(t, packs.Each(bits[:len(first)], 21, 9), kept[:21])
	if !bytes.Equal(bits, spare) {
		t.Error("Get or Each changed its argument")
	}
	clear(second[:cap(second)])
	clear(again[:cap(again)])
	clear(bits)
	clear(whole)
	if !bytes.Equal(first, model(kept[:21], 9)) || !slices.Equal(got, kept[:21]) {
		t.Error("results share memory")
	}
}

// P5.3: and what Get takes is what Put makes of its numbers.
func TestOneForm(t *testing.T) {
	for x := range 1 << 16 {
		b := []byte{byte(x), byte(x >> 8)}
		for width := 1; width <= 16; width++ {
			n := 16 / width
			if n*width <= 8 {
				continue
			}
			l, e := packs.Get(b, n, width)
			fits := x>>(n*width) == 0
			if fits != (e == api.OK) {
				t.Fatalf("% x, %d bits: error %d", b, width, e)
			}
			if fits && !bytes.Equal(put(t, l, width), b) {
				t.Fatalf("% x, %d bits: %x", b, width, l)
			}
		}
	}
}

// P5.3: in the width of the greatest number, and in greater ones.
func TestPutThenGet(t *testing.T) {
	r := rand.New(rand.NewPCG(5, 3))
	for range 2000 {
		l := make([]uint64, r.IntN(50))
		for i := range l {
			l[i] = r.Uint64() >> r.IntN(65)
		}
		for _, width := range []int{packs.Width(l), min(64, packs.Width(l)+r.IntN(9)), 64} {
			b := put(t, l, width)
			if len(b) != packs.Size(len(l), width) {
				t.Errorf("%d bytes, want %d", len(b), packs.Size(len(l), width))
			}
			wantNumbers(t, b, width, l)
		}
		if width := packs.Width(l) - 1; width >= 0 {
			wantNoBytes(t, l, width, api.ErrLong)
		}
	}
}
