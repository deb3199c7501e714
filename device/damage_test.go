package device_test

import (
	"math"
	"math/rand/v2"
	"slices"
	"strings"
	"testing"

	"shadowbook/api"
	"shadowbook/crc"
	"shadowbook/device"
)

// crashed is the device after a crash, or the end of the test.
func crashed(t *testing.T, d *device.Device, l ...api.Pick) *device.Device {
	t.Helper()
	c, e := d.Crash(l)
	if e != api.OK || c == nil {
		t.Fatalf("Crash %v: error %d", l, e)
	}
	if c.Geo() != d.Geo() || len(c.Pending()) != 0 || c.Ops() != 0 {
		t.Errorf("Crash %v: %v, %d pending, %d ops", l, c.Geo(), len(c.Pending()), c.Ops())
	}
	return c
}

// torn is the old bytes, with those sectors of the new ones whose bit is 1.
func torn(was, is string, sectors uint64) string {
	b := []byte(was)
	for i := range b {
		if sectors>>(i/api.Sector)&1 == 1 {
			b[i] = is[i]
		}
	}
	return string(b)
}

func TestCrashExample(t *testing.T) { // P3.3: the chapter's example
	d := fresh(t, small)
	b := text(128, 1)
	want(t, "Write", d.Write(1, b), api.OK)
	wantRead(t, d, 1, b)
	wantRead(t, crashed(t, d), 1, strings.Repeat("\x00", 128))
}

func TestCrashSectors(t *testing.T) { // P3.3
	for _, size := range []int{128, 192, 2048, 4032, 4096} {
		g := api.Geo{Size: size, Blocks: 8}
		was, is := text(8*size, 1), text(size, 2)
		all := uint64(math.MaxUint64) >> (64 - size/64)
		for _, block := range []int{0, 3, 7} {
			d, _ := device.Load(g, was)
			d.Write(block, is)
			for _, sectors := range []uint64{0, 1, 2, 3, 1 << (size/64 - 1), all, all - 1, all / 2, 0x5555555555555555 & all, 0x123456789abcdef0 & all} {
				c := crashed(t, d, api.Pick{Write: 0, Sectors: sectors})
				at := block * size
				if c.Image() != was[:at]+torn(was[at:at+size], is, sectors)+was[at+size:] {
					t.Errorf("size %d, block %d, sectors %x: wrong contents", size, block, sectors)
				}
			}
		}
	}
}

func TestCrashOrder(t *testing.T) { // P3.3: that of the Picks, not that of the writes
	d := fresh(t, small)
	a, b, c, zero := text(128, 1), text(128, 2), text(128, 3), strings.Repeat("\x00", 128)
	for _, x := range []string{a, b, c} {
		d.Write(6, x)
	}
	for _, x := range []struct {
		l    []api.Pick
		want string
	}{
		{nil, zero},
		{[]api.Pick{{Write: 0, Sectors: 3}, {Write: 1, Sectors: 3}, {Write: 2, Sectors: 3}}, c},
		{[]api.Pick{{Write: 2, Sectors: 3}, {Write: 1, Sectors: 3}, {Write: 0, Sectors: 3}}, a},
		{[]api.Pick{{Write: 2, Sectors: 3}, {Write: 0, Sectors: 3}, {Write: 1, Sectors: 3}}, b},
		{[]api.Pick{{Write: 1, Sectors: 3}}, b},
		{[]api.Pick{{Write: 1, Sectors: 2}, {Write: 0, Sectors: 1}}, a[:64] + b[64:]},
		{[]api.Pick{{Write: 2, Sectors: 1}, {Write: 0, Sectors: 0}}, c[:64] + zero[64:]},
		{[]api.Pick{{Write: 2, Sectors: 3}, {Write: 0, Sectors: 2}, {Write: 1, Sectors: 0}}, c[:64] + a[64:]},
	} {
		wantRead(t, crashed(t, d, x.l...), 6, x.want)
	}
}

func TestCrashLeavesTheDevice(t *testing.T) { // P3.3
	was, is, other := text(1024, 1), text(128, 2), text(128, 3)
	d, _ := device.Load(small, was)
	d.Write(2, is)
	d.Fuse(1)
	l := []api.Pick{{Write: 0, Sectors: 1}}
	c := crashed(t, d, l...)
	if d.Image() != was || !slices.Equal(d.Pending(), []api.Write{{Block: 2, Bytes: is}}) || d.Ops() != 1 || d.Geo() != small {
		t.Error("the crash changed the device")
	}
	if l[0] != (api.Pick{Write: 0, Sectors: 1}) {
		t.Error("the crash changed its argument")
	}
	c.Write(4, other)
	c.Flush()
	c.Rot(5, 0, 1)
	if d.Image() != was || len(d.Pending()) != 1 {
		t.Error("the new device changed the old one")
	}
	image := c.Image()
	want(t, "Flush within the fuse", d.Flush(), api.OK)
	want(t, "Rot", d.Rot(6, 9, 5), api.OK)
	if c.Image() != image {
		t.Error("the old device changed the new one")
	}
	want(t, "Flush beyond the fuse", d.Flush(), api.ErrState)
}

func TestWrongCrash(t *testing.T) { // P3.3
	for _, size := range []int{128, 192, 4032, 4096} {
		d := fresh(t, api.Geo{Size: size, Blocks: 8})
		beyond := []uint64{1 << (size / 64), math.MaxUint64, 1 << 63, 1<<(size/64) | 1}
		for pending := range 3 {
			l := [][]api.Pick{{{Write: pending}}, {{Write: -1}}, {{Write: math.MinInt}}, {{Write: math.MaxInt, Sectors: 1}}}
			for i := range pending {
				l = append(l, []api.Pick{{Write: i, Sectors: 1}, {Write: i, Sectors: 2}}, []api.Pick{{Write: i}, {Write: i}}, []api.Pick{{Write: i, Sectors: 3}, {Write: pending, Sectors: 3}})
				if size == 4096 {
					continue // has 64 sectors: all bits are those of one
				}
				for _, s := range beyond {
					l = append(l, []api.Pick{{Write: i, Sectors: s}})
				}
			}
			if pending == 2 {
				l = append(l, []api.Pick{{Write: 0}, {Write: 1}, {Write: 0}}, []api.Pick{{Write: 1, Sectors: 3}, {Write: 0, Sectors: 1}, {Write: 1, Sectors: 3}})
			}
			image := d.Image()
			for _, picks := range l {
				if c, e := d.Crash(picks); c != nil || e != api.ErrArg {
					t.Errorf("size %d, %d pending: Crash %v: %v, error %d", size, pending, picks, c != nil, e)
				}
			}
			if d.Image() != image || len(d.Pending()) != pending {
				t.Errorf("size %d: a crash with an error changed the device", size)
			}
			d.Write(pending, text(size, pending))
		}
	}
}

func TestCrashAfterFlush(t *testing.T) { // P3.3, P3.5: what was flushed is pending no longer, and remains
	d := fresh(t, small)
	a, b := text(128, 1), text(128, 2)
	d.Write(1, a)
	d.Flush()
	if c, e := d.Crash([]api.Pick{{Write: 0}}); c != nil || e != api.ErrArg {
		t.Errorf("a flushed write was picked: error %d", e)
	}
	d.Write(2, b)
	c := crashed(t, d, api.Pick{Write: 0, Sectors: 1})
	wantRead(t, c, 1, a)
	wantRead(t, c, 2, b[:64]+strings.Repeat("\x00", 64))
}

func TestRot(t *testing.T) { // P3.3
	was := text(1024, 1)
	for _, block := range []int{0, 1, 7} {
		for _, bit := range []int{0, 1, 7, 8, 500, 512, 1000, 1023} {
			for _, mask := range []uint32{1, 2, 3, 5, 0x80, 0x100, 0x1ff, 0x80000000, 0x80000001, 0xdeadbeef, math.MaxUint32} {
				d, _ := device.Load(small, was)
				top := bit
				for i := range 32 {
					if mask>>i&1 == 1 {
						top = bit + i
					}
				}
				at := 128 * block
				image, e := was, api.ErrArg
				if top < 1024 {
					image, e = was[:at]+string(crc.Flip([]byte(was[at:at+128]), bit, 32, mask))+was[at+128:], api.OK
				}
				if got := d.Rot(block, bit, mask); got != e || d.Image() != image {
					t.Errorf("Rot %d, %d, %x: error %d, want %d", block, bit, mask, got, e)
				}
			}
		}
	}
}

func TestWrongRot(t *testing.T) { // P3.3
	for _, g := range []api.Geo{small, {Size: 4096, Blocks: 9}} {
		d := fresh(t, g)
		room := 8 * g.Size
		for _, block := range notBlocks(g.Blocks) {
			want(t, "Rot of no block", d.Rot(block, 0, 1), api.ErrArg)
		}
		for _, bit := range []int{-1, -31, -room, room, room + 1, math.MinInt, math.MaxInt, math.MaxInt - 30} {
			for _, mask := range []uint32{0, 1, 1 << 31, math.MaxUint32} {
				want(t, "Rot of no bit", d.Rot(1, bit, mask), api.ErrArg)
			}
		}
		for _, bit := range []int{0, 5, room - 1} {
			want(t, "Rot of no mask", d.Rot(1, bit, 0), api.ErrArg)
		}
		for i := 1; i < 32; i++ {
			want(t, "Rot beyond the end", d.Rot(1, room-i, 1<<i), api.ErrArg)
			want(t, "Rot beyond the end of the device", d.Rot(g.Blocks-1, room-i, 1<<i|1), api.ErrArg)
		}
		if d.Image() != strings.Repeat("\x00", g.Size*g.Blocks) {
			t.Error("a Rot with an error changed something")
		}
		for i := range 32 {
			want(t, "Rot up to the end", d.Rot(1, room-1-i, 1<<i), api.OK)
			last := strings.Repeat("\x00", g.Size-1)
			if i%2 == 0 {
				last += "\x80"
			} else {
				last += "\x00"
			}
			wantRead(t, d, 1, last)
		}
	}
}

func TestRotIsDurable(t *testing.T) { // P3.3: what is pending stays as it is
	d := fresh(t, small)
	b := text(128, 1)
	d.Write(1, b)
	want(t, "Rot", d.Rot(1, 0, 0x8001), api.OK)
	wantRead(t, d, 1, b)
	if p := d.Pending(); len(p) != 1 || p[0].Bytes != b {
		t.Errorf("pending: %#v", p)
	}
	rotten := "\x01\x80" + strings.Repeat("\x00", 126)
	if d.Image()[128:256] != rotten {
		t.Errorf("% x", d.Image()[128:256])
	}
	wantRead(t, crashed(t, d), 1, rotten)
	wantRead(t, crashed(t, d, api.Pick{Write: 0, Sectors: 2}), 1, rotten[:64]+b[64:])
	d.Flush()
	wantRead(t, d, 1, b)
}

// TestScripts holds devices against plain lists of blocks: what is read, and what is durable.
func TestScripts(t *testing.T) { // P3.2, P3.3, P3.5
	r := rand.New(rand.NewPCG(3, 5))
	for range 50 {
		g := api.Geo{Size: 64 * (2 + r.IntN(4)), Blocks: 8 + r.IntN(4)}
		d := fresh(t, g)
		durable := slices.Repeat([]string{strings.Repeat("\x00", g.Size)}, g.Blocks)
		read := slices.Clone(durable)
		for step := range 200 {
			block := r.IntN(g.Blocks)
			switch r.IntN(12) {
			case 0:
				want(t, "Flush", d.Flush(), api.OK)
				durable = slices.Clone(read)
			case 1:
				p := d.Pending()
				var l []api.Pick
				for _, i := range r.Perm(len(p))[:r.IntN(len(p)+1)] {
					s := r.Uint64() >> (64 - g.Size/64)
					l = append(l, api.Pick{Write: i, Sectors: s})
					durable[p[i].Block] = torn(durable[p[i].Block], p[i].Bytes, s)
				}
				d = crashed(t, d, l...)
				read = slices.Clone(durable)
			default:
				read[block] = text(g.Size, step)
				want(t, "Write", d.Write(block, read[block]), api.OK)
			}
			for i := range g.Blocks {
				wantRead(t, d, i, read[i])
			}
			if d.Image() != strings.Join(durable, "") {
				t.Fatalf("step %d: other durable contents", step)
			}
		}
	}
}
