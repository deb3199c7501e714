package device_test

import (
	"math"
	"slices"
	"strings"
	"testing"
	"unsafe"

	"shadowbook/api"
	"shadowbook/device"
)

// small is the least geometry.
var small = api.Geo{Size: 128, Blocks: 8}

// badGeos are geometries next to the limits, and far from them.
func badGeos() []api.Geo {
	l := []api.Geo{{}, {Size: 8, Blocks: 128}}
	for _, size := range []int{math.MinInt, -128, -64, -1, 0, 1, 63, 64, 65, 127, 129, 160, 191, 193, 4032 + 1, 4095, 4097, 4160, 8192, math.MaxInt - 63, math.MaxInt} {
		l = append(l, api.Geo{Size: size, Blocks: 8}, api.Geo{Size: size, Blocks: 4096})
	}
	for _, blocks := range []int{math.MinInt, -8, -1, 0, 1, 7, 4097, 8192, math.MaxInt} {
		l = append(l, api.Geo{Size: 128, Blocks: blocks}, api.Geo{Size: 4096, Blocks: blocks})
	}
	return l
}

// goodGeos are the ends of each limit, and some between them.
func goodGeos() []api.Geo {
	return []api.Geo{{Size: 128, Blocks: 8}, {Size: 192, Blocks: 9}, {Size: 512, Blocks: 100}, {Size: 4032, Blocks: 8}, {Size: 4096, Blocks: 8}, {Size: 128, Blocks: 4096}, {Size: 4096, Blocks: 4096}}
}

// fresh is a new device, or the end of the test.
func fresh(t *testing.T, g api.Geo) *device.Device {
	t.Helper()
	d, e := device.New(g)
	if e != api.OK || d == nil {
		t.Fatalf("New %v: error %d", g, e)
	}
	return d
}

// want fails unless the error is the one that is wanted.
func want(t *testing.T, what string, got, e api.Errno) {
	t.Helper()
	if got != e {
		t.Errorf("%s: error %d, want %d", what, got, e)
	}
}

// wantRead fails unless a block is read as these bytes.
func wantRead(t *testing.T, d *device.Device, block int, b string) {
	t.Helper()
	if got, e := d.Read(block); e != api.OK || got != b {
		t.Errorf("Read %d: %q, error %d, want %q", block, got, e, b)
	}
}

// text is n bytes that all differ from their neighbours, and from those of another seed.
func text(n, seed int) string {
	b := make([]byte, n)
	for i := range b {
		b[i] = byte(i*i*7 + i*31 + seed*37 + 5)
	}
	return string(b)
}

// notBlocks are numbers of no block of a device with so many.
func notBlocks(blocks int) []int {
	return []int{-1, blocks, blocks + 1, -blocks, math.MinInt, math.MaxInt}
}

func TestCheck(t *testing.T) { // P3.1
	for _, g := range badGeos() {
		if e := device.Check(g); e != api.ErrArg {
			t.Errorf("Check %v: error %d", g, e)
		}
	}
	for _, g := range goodGeos() {
		if e := device.Check(g); e != api.OK {
			t.Errorf("Check %v: error %d", g, e)
		}
	}
	for size := range 4200 {
		valid := size%64 == 0 && size >= 128 && size <= 4096
		if e := device.Check(api.Geo{Size: size, Blocks: 8}); (e == api.OK) != valid {
			t.Errorf("Check of size %d: error %d", size, e)
		}
	}
	for blocks := range 4200 {
		valid := blocks >= 8 && blocks <= 4096
		if e := device.Check(api.Geo{Size: 128, Blocks: blocks}); (e == api.OK) != valid {
			t.Errorf("Check of %d blocks: error %d", blocks, e)
		}
	}
}

func TestNew(t *testing.T) { // P3.1
	for _, g := range badGeos() {
		if d, e := device.New(g); d != nil || e != api.ErrArg {
			t.Errorf("New %v: %v, error %d", g, d != nil, e)
		}
	}
	for _, g := range goodGeos() {
		d := fresh(t, g)
		if d.Geo() != g || d.Image() != strings.Repeat("\x00", g.Size*g.Blocks) || len(d.Pending()) != 0 || d.Ops() != 0 {
			t.Errorf("New %v: %v, %d pending, %d ops", g, d.Geo(), len(d.Pending()), d.Ops())
		}
		wantRead(t, d, 0, strings.Repeat("\x00", g.Size))
		wantRead(t, d, g.Blocks-1, strings.Repeat("\x00", g.Size))
	}
}

func TestLoad(t *testing.T) { // P3.1
	for _, g := range badGeos() {
		for _, image := range []string{"", strings.Repeat("x", 1024)} {
			if d, e := device.Load(g, image); d != nil || e != api.ErrArg {
				t.Errorf("Load %v: %v, error %d", g, d != nil, e)
			}
		}
	}
	for _, g := range goodGeos() {
		image := text(g.Size*g.Blocks, 1)
		for _, wrong := range []string{"", image[1:], image + "x", image[g.Size:], image + image} {
			if d, e := device.Load(g, wrong); d != nil || e != api.ErrArg {
				t.Errorf("Load %v of %d bytes: %v, error %d", g, len(wrong), d != nil, e)
			}
		}
		d, e := device.Load(g, image)
		if e != api.OK {
			t.Fatalf("Load %v: error %d", g, e)
		}
		if d.Geo() != g || d.Image() != image || len(d.Pending()) != 0 || d.Ops() != 0 {
			t.Errorf("Load %v: %v, %d pending, %d ops", g, d.Geo(), len(d.Pending()), d.Ops())
		}
		for _, block := range []int{0, 1, g.Blocks / 2, g.Blocks - 1} {
			wantRead(t, d, block, image[block*g.Size:][:g.Size])
		}
	}
}

func TestWrite(t *testing.T) { // P3.2
	d := fresh(t, small)
	a, b, c, zero := text(128, 1), text(128, 2), text(128, 3), strings.Repeat("\x00", 128)
	for _, w := range []api.Write{{Block: 7, Bytes: a}, {Block: 0, Bytes: b}, {Block: 7, Bytes: c}, {Block: 3, Bytes: a}} {
		want(t, "Write", d.Write(w.Block, w.Bytes), api.OK)
	}
	for block, x := range []string{b, zero, zero, a, zero, zero, zero, c} {
		wantRead(t, d, block, x)
	}
	if d.Image() != strings.Repeat(zero, 8) {
		t.Error("a pending write is durable")
	}
	if p := d.Pending(); !slices.Equal(p, []api.Write{{Block: 7, Bytes: a}, {Block: 0, Bytes: b}, {Block: 7, Bytes: c}, {Block: 3, Bytes: a}}) {
		t.Errorf("pending: %#v", p)
	}
	want(t, "Flush", d.Flush(), api.OK)
	if len(d.Pending()) != 0 || d.Image() != b+zero+zero+a+zero+zero+zero+c {
		t.Errorf("after Flush: %d pending, %q", len(d.Pending()), d.Image())
	}
	for block, x := range []string{b, zero, zero, a, zero, zero, zero, c} {
		wantRead(t, d, block, x)
	}
	want(t, "Write over what is durable", d.Write(3, c), api.OK)
	wantRead(t, d, 3, c)
	if p := d.Pending(); !slices.Equal(p, []api.Write{{Block: 3, Bytes: c}}) {
		t.Errorf("pending: %#v", p)
	}
}

func TestWriteCopies(t *testing.T) { // P3.2: what was passed is not kept
	d := fresh(t, small)
	long := text(4096, 1)
	d.Write(1, long[128:256])
	if p := d.Pending(); p[0].Bytes != long[128:256] || unsafe.StringData(p[0].Bytes) == unsafe.StringData(long[128:]) {
		t.Error("the argument is kept, or another one")
	}
}

func TestWrongWrite(t *testing.T) { // P3.2
	for _, g := range []api.Geo{small, {Size: 192, Blocks: 9}, {Size: 4096, Blocks: 8}} {
		d := fresh(t, g)
		for _, block := range append(notBlocks(g.Blocks), 0, g.Blocks-1) {
			for _, n := range []int{0, 1, 64, g.Size - 1, g.Size + 1, 2 * g.Size} {
				want(t, "Write of another size", d.Write(block, strings.Repeat("x", n)), api.ErrArg)
			}
		}
		for _, block := range notBlocks(g.Blocks) {
			want(t, "Write to no block", d.Write(block, strings.Repeat("x", g.Size)), api.ErrArg)
			if b, e := d.Read(block); b != "" || e != api.ErrArg {
				t.Errorf("Read %d: %q, error %d", block, b, e)
			}
		}
		if len(d.Pending()) != 0 || d.Image() != strings.Repeat("\x00", g.Size*g.Blocks) || d.Ops() != 0 {
			t.Errorf("%d pending, %d ops", len(d.Pending()), d.Ops())
		}
	}
}

func TestPendingIsNew(t *testing.T) { // P3.2
	d := fresh(t, small)
	d.Write(1, text(128, 1))
	d.Write(2, text(128, 2))
	kept := d.Pending()
	p := d.Pending()
	clear(p[:cap(p)])
	d.Write(3, text(128, 3))
	if len(kept) != 2 || !slices.Equal(d.Pending()[:2], kept) {
		t.Errorf("pending: %#v, before: %#v", d.Pending(), kept)
	}
	d.Flush()
	if !slices.Equal(kept, []api.Write{{Block: 1, Bytes: text(128, 1)}, {Block: 2, Bytes: text(128, 2)}}) {
		t.Errorf("changed by Flush: %#v", kept)
	}
}

func TestInvalidDevice(t *testing.T) { // P3.2 to P3.4
	made := fresh(t, small)
	b := text(128, 1)
	made.Write(0, b)
	copied := *made
	for what, d := range map[string]*device.Device{"nil": nil, "zero": {}, "copied": &copied} {
		d.Fuse(3)
		for _, block := range []int{-1, 0, 7, 8} { // ErrNil comes before ErrArg
			if got, e := d.Read(block); got != "" || e != api.ErrNil {
				t.Errorf("%s: Read: %q, error %d", what, got, e)
			}
			want(t, what+": Write", d.Write(block, b), api.ErrNil)
			want(t, what+": Write of one byte", d.Write(block, "x"), api.ErrNil)
			want(t, what+": Rot", d.Rot(block, 0, 1), api.ErrNil)
			want(t, what+": Rot of nothing", d.Rot(block, -1, 0), api.ErrNil)
		}
		want(t, what+": Flush", d.Flush(), api.ErrNil)
		for _, l := range [][]api.Pick{nil, {{}}, {{Write: -1}}} {
			if c, e := d.Crash(l); c != nil || e != api.ErrNil {
				t.Errorf("%s: Crash: %v, error %d", what, c != nil, e)
			}
		}
		if d.Geo() != (api.Geo{}) || d.Image() != "" || len(d.Pending()) != 0 || d.Ops() != 0 {
			t.Errorf("%s: %v, %d bytes, %d pending, %d ops", what, d.Geo(), len(d.Image()), len(d.Pending()), d.Ops())
		}
	}
	if made.Image() != strings.Repeat("\x00", 1024) || len(made.Pending()) != 1 || made.Ops() != 1 {
		t.Error("the device was changed through its copy")
	}
}

func TestOps(t *testing.T) { // P3.4
	d := fresh(t, small)
	b := text(128, 1)
	for i, x := range []struct {
		do  func() api.Errno
		e   api.Errno
		ops int
	}{
		{func() api.Errno { return d.Write(0, b) }, api.OK, 1},
		{func() api.Errno { return d.Write(0, b) }, api.OK, 2},
		{func() api.Errno { return d.Write(8, b) }, api.ErrArg, 2},
		{func() api.Errno { return d.Write(0, b[1:]) }, api.ErrArg, 2},
		{d.Flush, api.OK, 3},
		{d.Flush, api.OK, 4}, // also one of nothing
		{func() api.Errno { _, e := d.Read(0); return e }, api.OK, 4},
		{func() api.Errno { return d.Rot(0, 0, 1) }, api.OK, 4},
		{func() api.Errno { _, e := d.Crash(nil); return e }, api.OK, 4},
		{func() api.Errno { d.Fuse(0); return d.Flush() }, api.ErrState, 4},
		{func() api.Errno { return d.Write(0, b) }, api.ErrState, 4},
		{func() api.Errno { d.Fuse(-1); return d.Write(0, b) }, api.OK, 5},
	} {
		e := x.do()
		if e != x.e || d.Ops() != x.ops {
			t.Errorf("call %d: error %d, %d ops, want error %d, %d ops", i, e, d.Ops(), x.e, x.ops)
		}
	}
}

func TestFuse(t *testing.T) { // P3.4
	for n := range 6 {
		d := fresh(t, small)
		d.Write(5, text(128, 9)) // what was before the fuse does not count
		d.Fuse(n)
		done := 0
		do := func(i int) api.Errno {
			if i%3 == 2 {
				return d.Flush()
			}
			return d.Write(i%8, text(128, i))
		}
		for i := range 10 {
			want(t, "Write of another size", d.Write(0, "x"), api.ErrArg) // whatever the fuse is, and not counted
			want(t, "Write to no block", d.Write(8, text(128, 0)), api.ErrArg)
			pending, image := d.Pending(), d.Image()
			switch e := do(i); {
			case e == api.OK:
				done++
			case e != api.ErrState || i < n:
				t.Errorf("fuse %d, operation %d: error %d", n, i, e)
			case !slices.Equal(pending, d.Pending()) || image != d.Image():
				t.Errorf("fuse %d, operation %d changed something", n, i)
			}
		}
		if done != n || d.Ops() != n+1 {
			t.Errorf("fuse %d: %d done, %d ops", n, done, d.Ops())
		}
	}
}

func TestOtherFuse(t *testing.T) { // P3.4
	b := text(128, 1)
	for _, n := range []int{-1, -2, math.MinInt, math.MaxInt} {
		d := fresh(t, small)
		d.Fuse(0)
		want(t, "blown", d.Write(0, b), api.ErrState)
		want(t, "blown", d.Flush(), api.ErrState)
		d.Fuse(n)
		for range 20 {
			want(t, "Write", d.Write(0, b), api.OK)
			want(t, "Flush", d.Flush(), api.OK)
		}
	}
	d := fresh(t, small)
	d.Fuse(5)
	d.Write(0, b)
	d.Fuse(2) // replaces what is left, and is not added to it
	want(t, "first", d.Write(0, b), api.OK)
	want(t, "second", d.Flush(), api.OK)
	want(t, "third", d.Flush(), api.ErrState)
	d.Fuse(1)
	want(t, "again", d.Flush(), api.OK)
	want(t, "blown again", d.Write(0, b), api.ErrState)
}

func TestNoFuse(t *testing.T) { // P3.4: devices that were just made have none
	loaded, _ := device.Load(small, text(1024, 1))
	made := fresh(t, small)
	made.Fuse(1)
	for what, d := range map[string]*device.Device{"New": fresh(t, small), "Load": loaded, "Crash": crashed(t, made)} {
		for i := range 3000 {
			if e, f := d.Write(i%8, text(128, i)), d.Flush(); e != api.OK || f != api.OK {
				t.Fatalf("%s, %d: errors %d, %d", what, i, e, f)
			}
		}
		if d.Ops() != 6000 {
			t.Errorf("%s: %d ops", what, d.Ops())
		}
	}
}

func TestBlownFuse(t *testing.T) { // P3.4: everything but Writes and Flushes goes on
	d := fresh(t, small)
	b := text(128, 1)
	d.Write(4, b)
	d.Fuse(0)
	wantRead(t, d, 4, b)
	want(t, "Rot", d.Rot(3, 0, 1), api.OK)
	wantRead(t, d, 3, "\x01"+strings.Repeat("\x00", 127))
	c, e := d.Crash([]api.Pick{{Write: 0, Sectors: 3}})
	if e != api.OK {
		t.Fatal(e)
	}
	wantRead(t, c, 4, b)
	if c.Ops() != 0 {
		t.Errorf("%d ops after a crash", c.Ops())
	}
	want(t, "Write after a crash", c.Write(0, b), api.OK)
	want(t, "Flush after a crash", c.Flush(), api.OK)
	want(t, "Write before it", d.Write(0, b), api.ErrState)
}
