package frame_test

import (
	"encoding/binary"
	"fmt"
	"hash/crc32"
	"math"
	"slices"
	"strings"
	"testing"
	"unsafe"

	"shadowbook/api"
	"shadowbook/crc"
	"shadowbook/device"
	"shadowbook/frame"
)

// Where the parts of a block begin, as the document says.
const (
	zeroAt  = 1
	countAt = 2
	dataAt  = 12
	extra   = 16
)

// sizes are the ends of the limits, and some between them.
var sizes = []int{128, 192, 256, 1024, 4032, 4096}

// badSizes are numbers next to the limits, between valid ones, and far from them.
var badSizes = []int{math.MinInt, math.MinInt + 16, -4096, -128, -1, 0, 1, 12, 16, 63, 64, 65, 100, 127, 129, 144, 160, 191, 193, 4031, 4033, 4095, 4097, 4160, 8192, math.MaxInt - 63, math.MaxInt}

// gens are generations with bytes that differ, and the ends.
var gens = []uint64{0, 1, 255, 256, 0x0123456789abcdef, math.MaxInt64, math.MaxUint64}

// want fails unless the error is the one that is wanted.
func want(t *testing.T, what string, got, e api.Errno) {
	t.Helper()
	if got != e {
		t.Errorf("%s: error %d, want %d", what, got, e)
	}
}

// wantNone fails unless there is that error, and no frame beside it.
func wantNone(t *testing.T, what string, f api.Frame, got, e api.Errno) {
	t.Helper()
	want(t, what, got, e)
	if f != (api.Frame{}) {
		t.Errorf("%s: a frame beside an error: %s", what, show(f))
	}
}

// wantFrame fails unless there is that frame, and no error.
func wantFrame(t *testing.T, what string, f api.Frame, e api.Errno, g api.Frame) {
	t.Helper()
	want(t, what, e, api.OK)
	if f != g {
		t.Errorf("%s: %s, want %s", what, show(f), show(g))
	}
}

// show is a frame in words.
func show(f api.Frame) string {
	return fmt.Sprintf("tag %d, generation %d, data %q", f.Tag, f.Gen, f.Data)
}

// put is the block of a frame, or the end of the test.
func put(t *testing.T, size int, f api.Frame) string {
	t.Helper()
	b, e := frame.Put(size, f)
	if e != api.OK || len(b) != size {
		t.Fatalf("Put %d: %d bytes, error %d", size, len(b), e)
	}
	return b
}

// text is n bytes that differ from their neighbours, none of them 0.
func text(n int) string {
	b := make([]byte, n)
	for i := range b {
		b[i] = byte(i*7%255) + 1
	}
	return string(b)
}

// sealed is the bytes with the checksum that belongs to them, whatever they are.
func sealed(b []byte) string {
	b = slices.Clone(b)
	end := len(b) - 4
	binary.LittleEndian.PutUint32(b[end:], crc32.Checksum(b[:end], crc32.MakeTable(crc32.Castagnoli)))
	return string(b)
}

// model is the block of a frame that fits, made in another way.
func model(size int, f api.Frame) string {
	b := []byte{f.Tag, 0}
	b = binary.LittleEndian.AppendUint16(b, uint16(len(f.Data)))
	b = binary.LittleEndian.AppendUint64(b, f.Gen)
	b = append(b, f.Data...)
	return sealed(append(b, make([]byte, size-len(b))...))
}

// frames are frames that fit into blocks of a size: each end of each field.
func frames(size int) []api.Frame {
	var l []api.Frame
	room := size - extra
	for _, n := range []int{0, 1, 2, room / 2, room - 1, room} {
		for i, gen := range gens {
			l = append(l, api.Frame{Tag: []byte{0, 1, 7, 128, 255}[i%5], Gen: gen, Data: text(n)})
		}
		l = append(l, api.Frame{Tag: 5, Gen: 6, Data: strings.Repeat("\x00", n)})
		l = append(l, api.Frame{Tag: 255, Gen: math.MaxUint64, Data: strings.Repeat("\xff", n)})
	}
	return l
}

// P4.1
func TestRoom(t *testing.T) {
	for size := -200; size <= 9000; size++ {
		room := 0
		if size >= 128 && size <= 4096 && size%64 == 0 {
			room = size - 16
		}
		if got := frame.Room(size); got != room {
			t.Errorf("Room %d: %d, want %d", size, got, room)
		}
	}
	for _, size := range badSizes {
		if got := frame.Room(size); got != 0 {
			t.Errorf("Room %d: %d, want 0", size, got)
		}
	}
}

// P4.1
func TestPutBytes(t *testing.T) {
	for _, size := range sizes {
		for _, f := range frames(size) {
			if got, m := put(t, size, f), model(size, f); got != m {
				t.Errorf("Put %d, %s: %q, want %q", size, show(f), got, m)
			}
		}
	}
}

// P4.1
func TestPutEveryLength(t *testing.T) {
	for n := range 113 {
		f := api.Frame{Tag: 2, Gen: 9, Data: text(n)}
		if got := put(t, 128, f); got != model(128, f) {
			t.Errorf("%d bytes: %q", n, got)
		}
	}
}

// P4.1
func TestPutLong(t *testing.T) {
	for _, size := range sizes {
		room := size - extra
		for _, n := range []int{room + 1, room + 2, room + 4, room + 15, room + 16, size, size + 1, 65535, 65536, 65536 + room, 1 << 20} {
			b, e := frame.Put(size, api.Frame{Tag: 1, Gen: 1, Data: strings.Repeat("a", n)})
			want(t, "a long frame", e, api.ErrLong)
			if b != "" {
				t.Errorf("%d: a block beside an error", n)
			}
		}
	}
}

// P4.1: a wrong size comes ahead of data that are too long.
func TestPutSizes(t *testing.T) {
	for _, size := range badSizes {
		for _, n := range []int{0, 1, 112, 4080, 4081, 70000} {
			b, e := frame.Put(size, api.Frame{Data: strings.Repeat("a", n)})
			want(t, "a wrong size", e, api.ErrArg)
			if b != "" {
				t.Errorf("%d: a block beside an error", size)
			}
		}
	}
}

// P4.2
func TestGet(t *testing.T) {
	for _, size := range sizes {
		for _, f := range frames(size) {
			g, e := frame.Get(put(t, size, f))
			wantFrame(t, "Get", g, e, f)
			g, e = frame.Get(model(size, f))
			wantFrame(t, "Get of a block made otherwise", g, e, f)
		}
	}
}

// P4.2
func TestGetSizes(t *testing.T) {
	for n := range 4300 {
		if n >= 128 && n <= 4096 && n%64 == 0 {
			continue
		}
		f, e := frame.Get(strings.Repeat("\x00", n))
		wantNone(t, "a wrong size", f, e, api.ErrArg)
		if n >= extra {
			f, e = frame.Get(model(n, api.Frame{Tag: 1}))
			wantNone(t, "a wrong size, with a right checksum", f, e, api.ErrArg)
		}
	}
	f, e := frame.Get(strings.Repeat("a", 1<<20))
	wantNone(t, "a long text", f, e, api.ErrArg)
}

// P4.2: a block of a valid size that is not the one that was put.
func TestGetCorrupt(t *testing.T) {
	for _, size := range sizes {
		for _, c := range []string{"\x00", "\xff", "a"} {
			f, e := frame.Get(strings.Repeat(c, size))
			wantNone(t, "the same byte everywhere", f, e, api.ErrCorrupt)
		}
		b := put(t, size, api.Frame{Tag: 3, Gen: 4, Data: text(size - extra)})
		f, e := frame.Get(b[1:] + b[:1])
		wantNone(t, "bytes that have moved", f, e, api.ErrCorrupt)
		f, e = frame.Get(b[:size/2] + strings.Repeat("\x00", size-size/2))
		wantNone(t, "a torn block", f, e, api.ErrCorrupt)
	}
}

// P4.2: every byte is part of the block, the checksum's own ones too.
func TestGetEveryByte(t *testing.T) {
	for _, size := range []int{128, 4096} {
		b := []byte(put(t, size, api.Frame{Tag: 3, Gen: 4, Data: text(50)}))
		for i := range b {
			for _, x := range []byte{1, 128, 255} {
				b[i] ^= x
				f, e := frame.Get(string(b))
				wantNone(t, "a changed byte", f, e, api.ErrCorrupt)
				b[i] ^= x
			}
		}
	}
}

// P4.2: the checksum is right, but Put makes no such block.
func TestGetBad(t *testing.T) {
	for _, size := range sizes {
		room := size - extra
		b := []byte(put(t, size, api.Frame{Tag: 3, Gen: 4, Data: text(20)}))
		for x := 1; x < 256; x++ {
			wrong := slices.Clone(b)
			wrong[zeroAt] = byte(x)
			wantBad(t, "the byte after the tag", wrong)
		}
		for _, n := range []int{room + 1, room + 2, room + 4, size, 4097, 32768, 65535} {
			wrong := slices.Clone(b)
			binary.LittleEndian.PutUint16(wrong[countAt:], uint16(n))
			wantBad(t, "a number of bytes", wrong)
		}
		for i := dataAt + 20; i < size-4; i++ {
			wrong := slices.Clone(b)
			wrong[i] = byte(i%255) + 1
			wantBad(t, "a byte after the data", wrong)
		}
		binary.LittleEndian.PutUint16(b[countAt:], 19)
		wantBad(t, "fewer bytes than there are", b)
	}
}

// wantBad fails unless the bytes are refused: as ErrBad with a right checksum, and as ErrCorrupt with a wrong one.
func wantBad(t *testing.T, what string, b []byte) {
	t.Helper()
	s := sealed(b)
	f, e := frame.Get(s)
	wantNone(t, what, f, e, api.ErrBad)
	f, e = frame.Kind(s, s[0])
	wantNone(t, what+", by Kind", f, e, api.ErrBad)
	f, e = frame.Kind(s, s[0]+1)
	wantNone(t, what+", by Kind of another tag", f, e, api.ErrBad)
	wrong := []byte(s)
	wrong[len(wrong)-1] ^= 16
	f, e = frame.Get(string(wrong))
	wantNone(t, what+", corrupt", f, e, api.ErrCorrupt)
}

// P4.2: more data that end in zero bytes are another block, and fewer leave nothing behind.
func TestGetKeepsZeros(t *testing.T) {
	for _, data := range []string{"", "\x00", "a\x00", "a\x00\x00", "\x00\x00a", strings.Repeat("\x00", 112)} {
		f := api.Frame{Tag: 1, Gen: 2, Data: data}
		g, e := frame.Get(put(t, 128, f))
		wantFrame(t, "zero bytes", g, e, f)
	}
}

// P4.2
func TestKind(t *testing.T) {
	for tag := range 256 {
		f := api.Frame{Tag: byte(tag), Gen: 1 << 40, Data: text(30)}
		b := put(t, 192, f)
		for other := range 256 {
			g, e := frame.Kind(b, byte(other))
			if other == tag {
				wantFrame(t, "Kind", g, e, f)
			} else {
				wantNone(t, "another tag", g, e, api.ErrKind)
			}
		}
	}
}

// P4.2: the errors of Get come ahead of a wrong tag.
func TestKindErrors(t *testing.T) {
	b := put(t, 128, api.Frame{Tag: 3, Gen: 1, Data: "ab"})
	for _, tag := range []byte{0, 3, 4} {
		for _, s := range []string{"", "a", b[:127], b + "\x00", b[:64], b + b[:32]} {
			f, e := frame.Kind(s, tag)
			wantNone(t, "a wrong size", f, e, api.ErrArg)
		}
		f, e := frame.Kind("\x04"+b[1:], tag)
		wantNone(t, "a changed tag", f, e, api.ErrCorrupt)
		f, e = frame.Kind(strings.Repeat("\x00", 128), tag)
		wantNone(t, "zero bytes", f, e, api.ErrCorrupt)
	}
}

// P4.3: all inverted bits that lie within n bits, for each n up to 32 at each place.
func TestBursts(t *testing.T) {
	for _, f := range []api.Frame{{}, {Tag: 3, Gen: 1, Data: "ab"}, {Tag: 255, Gen: math.MaxUint64, Data: text(112)}} {
		b := []byte(put(t, 128, f))
		for bit := range 8 * len(b) {
			for n := 1; n <= 32 && bit+n <= 8*len(b); n++ {
				ends := uint32(1) | 1<<(n-1)
				for _, inner := range []uint32{0, math.MaxUint32, 0x9e3779b9, 0x55555555} {
					wantCorrupt(t, b, bit, n, ends|inner)
				}
			}
		}
	}
}

// P4.3: the same for the greatest blocks, at the ends of the parts and at some other places.
func TestBurstsOfGreatBlocks(t *testing.T) {
	for _, size := range []int{1024, 4096} {
		b := []byte(put(t, size, api.Frame{Tag: 7, Gen: 99, Data: text(size - 100)}))
		for bit := range 8 * size {
			near := bit < 8*dataAt+8 || bit > 8*size-80
			if !near && bit%61 != 0 {
				continue
			}
			for _, mask := range []uint32{1, 3, 0x80000001, math.MaxUint32, 0x9e3779b9} {
				wantCorrupt(t, b, bit, min(32, 8*size-bit), mask)
			}
		}
	}
}

// wantCorrupt fails unless the block is corrupt after bits have been inverted.
func wantCorrupt(t *testing.T, b []byte, bit, n int, mask uint32) {
	t.Helper()
	s := string(crc.Flip(b, bit, n, mask))
	if f, e := frame.Get(s); e != api.ErrCorrupt || f != (api.Frame{}) {
		t.Fatalf("bit %d, %d bits, mask %x: %s, error %d", bit, n, mask, show(f), e)
	}
}

// P4.3: on a device, whose Rot inverts bits in the same order.
func TestRotten(t *testing.T) {
	d, e := device.New(api.Geo{Size: 192, Blocks: 8})
	want(t, "New", e, api.OK)
	f := api.Frame{Tag: 6, Gen: 12, Data: text(100)}
	want(t, "Write", d.Write(5, put(t, 192, f)), api.OK)
	want(t, "Flush", d.Flush(), api.OK)
	for bit := 0; bit <= 8*192-32; bit += 5 {
		for _, mask := range []uint32{1, 0x80000001, 0xdeadbeef, math.MaxUint32} {
			want(t, "Rot", d.Rot(5, bit, mask), api.OK)
			b, _ := d.Read(5)
			g, e := frame.Kind(b, 6)
			wantNone(t, "after Rot", g, e, api.ErrCorrupt)
			want(t, "Rot back", d.Rot(5, bit, mask), api.OK)
			b, _ = d.Read(5)
			g, e = frame.Kind(b, 6)
			wantFrame(t, "after Rot back", g, e, f)
		}
	}
}

// Rule 3: the data of a frame share nothing with the block, nor the block with the data.
func TestNewMemory(t *testing.T) {
	data := text(112)
	b := put(t, 128, api.Frame{Tag: 1, Data: data})
	f, _ := frame.Get(b)
	k, _ := frame.Kind(b, 1)
	for _, pair := range [][2]string{{data, b}, {f.Data, b}, {k.Data, b}, {f.Data, data}, {f.Data, k.Data}} {
		if overlap(pair[0], pair[1]) {
			t.Error("memory is shared")
		}
	}
}

// overlap tells whether two texts lie in the same memory.
func overlap(a, b string) bool {
	from, at := uintptr(unsafe.Pointer(unsafe.StringData(a))), uintptr(unsafe.Pointer(unsafe.StringData(b)))
	return from < at+uintptr(len(b)) && at < from+uintptr(len(a))
}

// T6: the result of a call depends only on its arguments.
func TestSameAgain(t *testing.T) {
	f := api.Frame{Tag: 1, Gen: 2, Data: "same"}
	first := put(t, 128, f)
	for range 3 {
		frame.Get(strings.Repeat("b", 128))
		frame.Put(4096, api.Frame{Tag: 9, Data: text(4080)})
		if put(t, 128, f) != first {
			t.Error("another block")
		}
	}
}

// The chapter's example.
func TestExample(t *testing.T) {
	f := api.Frame{Tag: 3, Gen: 1, Data: "ab"}
	b := put(t, 128, f)
	head := "\x03\x00\x02\x00\x01\x00\x00\x00\x00\x00\x00\x00ab"
	if b[:14] != head || b[14:124] != strings.Repeat("\x00", 110) || crc.Of([]byte(b[:124])) != binary.LittleEndian.Uint32([]byte(b[124:])) {
		t.Errorf("%q", b)
	}
	g, e := frame.Get(b)
	wantFrame(t, "Get", g, e, f)
}
