package crc_test

import (
	"bytes"
	"encoding/binary"
	"hash/crc32"
	"math"
	"testing"

	"shadowbook/crc"
)

// text is n bytes that all differ from their neighbours.
func text(n int) []byte {
	b := make([]byte, n)
	for i := range b {
		b[i] = byte(i*i*7 + i*31 + 5)
	}
	return b
}

// withSum is the bytes, followed by their checksum in little-endian order.
func withSum(b []byte) []byte {
	return binary.LittleEndian.AppendUint32(bytes.Clone(b), crc.Of(b))
}

// isWhole tells whether the last four bytes are the checksum of those before them.
func isWhole(b []byte) bool {
	cut := len(b) - 4
	return crc.Of(b[:cut]) == binary.LittleEndian.Uint32(b[cut:])
}

// flipped is what the chapter says of Flip, bit by bit, for n from 0 to 32 and a bit from 0 on.
func flipped(b []byte, bit, n int, mask uint32) []byte {
	out := bytes.Clone(b)
	for k := range 8 * len(b) {
		if k >= bit && k-bit < n && mask&(1<<(k-bit)) != 0 {
			out[k/8] ^= 1 << (k % 8)
		}
	}
	return out
}

// masks are those of a burst of n bits: the least, the whole, its ends, and mixed ones.
func masks(n int) []uint32 {
	all := uint32(1)<<n - 1
	l := []uint32{1, all, 1 | 1<<(n-1), 1 << (n - 1)}
	for _, m := range []uint32{0x82f63b78, 0xaaaaaaaa, 0x00ff00ff, 0x1edc6f41} {
		if m&all != 0 {
			l = append(l, m&all)
		}
	}
	return l
}

func TestTable(t *testing.T) { // P2.1
	got, want := crc.Table(), crc32.MakeTable(crc32.Castagnoli)
	for i := range 256 {
		entry := uint32(i)
		for range 8 {
			low := entry & 1
			entry /= 2
			entry ^= 0x82f63b78 * low
		}
		if got[i] != entry || got[i] != want[i] {
			t.Errorf("entry %d: %x, want %x", i, got[i], entry)
		}
	}
	got[1] = 0
	if again := crc.Table(); again[1] != want[1] {
		t.Error("a change of a result changes the next one")
	}
}

func TestUpdate(t *testing.T) { // P2.1
	table := crc.Table()
	states := []uint32{0, 1, 0x80000000, 0xdeadbeef, math.MaxUint32}
	for _, state := range states {
		for _, b := range [][]byte{nil, {}} {
			if s := crc.Update(table, state, b); s != state {
				t.Errorf("no bytes turn %x to %x", state, s)
			}
		}
		for n := 1; n < 20; n++ {
			want := state
			for _, c := range text(n) {
				want = want>>8 ^ table[want%256^uint32(c)]
			}
			if s := crc.Update(table, state, text(n)); s != want {
				t.Errorf("%d bytes turn %x to %x, want %x", n, state, s, want)
			}
		}
	}
}

func TestUpdateInParts(t *testing.T) { // P2.1
	table, b := crc.Table(), text(40)
	want := crc.Update(table, 77, b)
	for cut := range len(b) + 1 {
		if s := crc.Update(table, crc.Update(table, 77, b[:cut]), b[cut:]); s != want {
			t.Errorf("cut at %d: %x, want %x", cut, s, want)
		}
	}
}

func TestAnyTable(t *testing.T) { // P2.1: the table is the one that is passed, whatever it contains
	var zero, steps [256]uint32
	for i := range steps {
		steps[i] = uint32(i) << 24
	}
	if s := crc.Update(zero, 0xaabbccdd, []byte{9}); s != 0x00aabbcc {
		t.Errorf("%x", s)
	}
	if s := crc.Update(steps, 0x11223344, []byte{0x0f, 0xf0}); s != 0xc34b1122 {
		t.Errorf("%x", s)
	}
	if s := crc.Sum(zero, []byte{1, 2}); s != 0xffff0000 {
		t.Errorf("%x", s)
	}
	if s := crc.Sum(steps, nil); s != 0 {
		t.Errorf("%x", s)
	}
}

func TestSumAndOf(t *testing.T) { // P2.1
	known := []struct {
		b    []byte
		want uint32
	}{
		{[]byte("123456789"), 0xe3069283},
		{nil, 0},
		{[]byte{}, 0},
		{make([]byte, 32), 0x8a9136aa},
		{bytes.Repeat([]byte{0xff}, 32), 0x62a8ab43},
		{[]byte("a"), 0xc1d04330},
	}
	for _, k := range known {
		if s := crc.Of(k.b); s != k.want {
			t.Errorf("Of %q: %x, want %x", k.b, s, k.want)
		}
	}
	table, castagnoli := crc.Table(), crc32.MakeTable(crc32.Castagnoli)
	for _, n := range []int{0, 1, 2, 3, 4, 5, 7, 8, 9, 63, 64, 65, 128, 4096, 1 << 16} {
		want := crc32.Checksum(text(n), castagnoli)
		if s := crc.Of(text(n)); s != want {
			t.Errorf("Of %d bytes: %x, want %x", n, s, want)
		}
		if s := crc.Sum(table, text(n)); s != want || s != ^crc.Update(table, math.MaxUint32, text(n)) {
			t.Errorf("Sum of %d bytes: %x, want %x", n, s, want)
		}
	}
}

func TestFlip(t *testing.T) { // P2.2
	for n := range 33 {
		for _, mask := range []uint32{0, 1, 0x80000000, 0x80000001, 0x12345678, 0xaaaaaaaa, math.MaxUint32} {
			for size := range 8 {
				for bit := range 8*size + 40 {
					got, want := crc.Flip(text(size), bit, n, mask), flipped(text(size), bit, n, mask)
					if !bytes.Equal(got, want) {
						t.Fatalf("%d bytes, bit %d, n %d, mask %x: % x, want % x", size, bit, n, mask, got, want)
					}
				}
			}
		}
	}
}

func TestFlipByHand(t *testing.T) { // P2.2
	cases := []struct {
		bit, n int
		mask   uint32
		want   string
	}{
		{0, 1, 1, "\x01\x00\x00"},
		{7, 3, 5, "\x80\x02\x00"},
		{7, 2, 5, "\x80\x00\x00"}, // bits of the mask from n on do not count
		{8, 8, 0xff, "\x00\xff\x00"},
		{4, 16, 0xffff, "\xf0\xff\x0f"},
		{23, 32, math.MaxUint32, "\x00\x00\x80"}, // past the end there is no such bit
		{24, 32, math.MaxUint32, "\x00\x00\x00"},
		{3, 0, math.MaxUint32, "\x00\x00\x00"},
		{3, 32, 0, "\x00\x00\x00"},
		{0, 32, math.MaxUint32, "\xff\xff\xff"},
	}
	for _, c := range cases {
		if got := crc.Flip(make([]byte, 3), c.bit, c.n, c.mask); string(got) != c.want {
			t.Errorf("bit %d, n %d, mask %x: % x, want % x", c.bit, c.n, c.mask, got, c.want)
		}
	}
}

func TestFlipNothing(t *testing.T) { // P2.2: what there is nothing to invert for
	cases := []struct{ bit, n int }{
		{0, -1}, {0, 33}, {0, 64}, {0, math.MinInt}, {0, math.MaxInt},
		{-1, 32}, {-1, 1}, {-8, 32}, {math.MinInt, 32}, {math.MinInt, math.MaxInt},
		{math.MaxInt, 32}, {math.MaxInt - 1, 32}, {math.MaxInt - 31, 32}, {math.MaxInt - 7, 8}, {math.MaxInt, math.MinInt},
	}
	for _, c := range cases {
		for _, size := range []int{0, 1, 9} {
			if got := crc.Flip(text(size), c.bit, c.n, math.MaxUint32); !bytes.Equal(got, text(size)) {
				t.Errorf("%d bytes, bit %d, n %d: % x", size, c.bit, c.n, got)
			}
		}
	}
}

func TestFlipCopies(t *testing.T) { // P2.2
	for _, c := range []struct{ bit, n int }{{0, 32}, {20, 32}, {-1, 3}, {3, 33}} {
		whole := text(64)
		first := crc.Flip(whole[:3], c.bit, c.n, math.MaxUint32)
		if !bytes.Equal(whole, text(64)) {
			t.Error("the argument was changed, or its spare capacity")
		}
		second := crc.Flip(whole[:3], c.bit, c.n, math.MaxUint32)
		first = first[:cap(first)]
		kept := bytes.Clone(first)
		for _, b := range [][]byte{whole, second[:cap(second)]} {
			for i := range b {
				b[i] = ^b[i]
			}
			if !bytes.Equal(first, kept) {
				t.Error("the result shares memory")
			}
		}
	}
}

func TestFlipTwice(t *testing.T) { // P2.2
	b := text(12)
	for bit := range 8*len(b) + 9 {
		if got := crc.Flip(crc.Flip(b, bit, 32, 0xdeadbeef), bit, 32, 0xdeadbeef); !bytes.Equal(got, b) {
			t.Errorf("bit %d: % x", bit, got)
		}
	}
}

func TestOtherChecksum(t *testing.T) { // P2.3
	for _, size := range []int{1, 2, 3, 4, 5, 9, 37} {
		b := text(size)
		want := crc.Of(b)
		for bit := range 8 * size {
			for n := 1; n <= 32; n++ {
				for _, mask := range masks(n) {
					if got := crc.Flip(b, bit, n, mask); !bytes.Equal(got, b) && crc.Of(got) == want {
						t.Fatalf("%d bytes, bit %d, n %d, mask %x: the same checksum", size, bit, n, mask)
					}
				}
			}
		}
	}
}

func TestNoLongerWhole(t *testing.T) { // P2.3: inverted bits in the bytes, in their checksum, and over both
	for _, size := range []int{0, 1, 3, 4, 5, 20} {
		b := withSum(text(size))
		if !isWhole(b) {
			t.Fatalf("%d bytes are not whole", size)
		}
		for bit := range 8 * len(b) {
			for n := 1; n <= 32; n++ {
				for _, mask := range masks(n) {
					if got := crc.Flip(b, bit, n, mask); !bytes.Equal(got, b) && isWhole(got) {
						t.Fatalf("%d bytes, bit %d, n %d, mask %x: still whole", size, bit, n, mask)
					}
				}
			}
		}
	}
}
