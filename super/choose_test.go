package super_test

import (
	"math"
	"math/rand/v2"
	"testing"

	"shadowbook/api"
	"shadowbook/device"
	"shadowbook/super"
)

// P11.2: the chapter's examples
func TestChooseExamples(t *testing.T) {
	four, five := superOf(small, 4, false), superOf(small, 5, true)
	wantChosen(t, "Gen 4, Gen 5", put(t, four), put(t, five), 1, five)
	wantChosen(t, "Gen 4, zero bytes", put(t, four), zeros(128), 0, four)
}

// P11.2
func TestChoose(t *testing.T) {
	gens := []uint64{1, 2, 3, 255, 256, 1 << 32, 1<<63 - 1, 1 << 63, 1<<64 - 1}
	for _, a := range gens {
		for _, b := range gens {
			first, second := superOf(small, a, false), superOf(small, b, true)
			if a >= b {
				wantChosen(t, "two", put(t, first), put(t, second), 0, first)
			} else {
				wantChosen(t, "two", put(t, first), put(t, second), 1, second)
			}
		}
	}
}

// P11.2: of two with the same Gen the first one, whatever else they contain
func TestChooseEqual(t *testing.T) {
	a, b := superOf(small, 8, true), superOf(api.Geo{Size: 4096, Blocks: 4096}, 8, false)
	wantChosen(t, "equal Gen", put(t, a), put(t, b), 0, a)
	wantChosen(t, "equal Gen", put(t, b), put(t, a), 0, b)
	wantChosen(t, "the same block", put(t, a), put(t, a), 0, a)
}

// notSupers are blocks for which Get returns an error: each error once, and supers with a great Gen that are not valid.
func notSupers() []string {
	great := superOf(small, math.MaxUint64, false)
	good := modelOf(great)
	return []string{
		"", good[:127], zeros(128), zeros(4096), good[:127] + string([]byte{^good[127]}),
		sealed("\x01\x01" + good[2:]), blockOf(128, 2, 9, dataOf(great)), blockOf(256, 1, math.MaxUint64, dataOf(great)),
		blockOf(128, 1, math.MaxUint64, ""), blockOf(128, 1, math.MaxUint64, dataOf(great)+"\x00"), blockOf(128, 1, 0, dataOf(great)),
	}
}

// P11.2
func TestChooseOneOrNone(t *testing.T) {
	for _, gen := range []uint64{1, 6, math.MaxUint64} {
		s := superOf(small, gen, true)
		for _, bad := range notSupers() {
			wantChosen(t, "the second one is none", put(t, s), bad, 0, s)
			wantChosen(t, "the first one is none", bad, put(t, s), 1, s)
		}
	}
	for _, a := range notSupers() {
		for _, b := range notSupers() {
			if slot, s, e := super.Choose(a, b); slot != -1 || e != api.ErrCorrupt || !isZero(s) {
				t.Errorf("Choose(%x, %x): %d, %s, error %d", a, b, slot, show(s), e)
			}
		}
	}
}

// P11.2
func TestOther(t *testing.T) {
	if got := super.Other(0); got != 1 {
		t.Errorf("Other 0: %d", got)
	}
	for _, slot := range []int{1, 2, 3, -1, -2, 256, 1 << 32, math.MaxInt, math.MinInt} {
		if got := super.Other(slot); got != 0 {
			t.Errorf("Other %d: %d, want 0", slot, got)
		}
	}
}

// pair is a device with two superblocks, both durable.
func pair(t *testing.T, a, b api.Super) *device.Device {
	t.Helper()
	d, _ := device.New(a.Geo)
	d.Write(0, put(t, a))
	d.Write(1, put(t, b))
	if d.Flush() != api.OK {
		t.Fatal("no device")
	}
	return d
}

// chosen is what the two superblocks of a device say.
func chosen(d *device.Device) (int, api.Super, api.Errno) {
	a, _ := d.Read(0)
	b, _ := d.Read(1)
	return super.Choose(a, b)
}

// wantOldOrNew fails unless the old super is chosen, or the new one, complete; it tells whether it is the new one.
func wantOldOrNew(t *testing.T, d *device.Device, slot int, old, now api.Super) bool {
	t.Helper()
	got, s, e := chosen(d)
	isOld, isNew := got == slot && same(s, old), got == super.Other(slot) && same(s, now)
	if e != api.OK || !isOld && !isNew {
		t.Errorf("%d, %s, error %d, want %s or %s", got, show(s), e, show(old), show(now))
	}
	return isNew
}

// P11.3: the write of the new super is torn in each way that there is
func TestTornWrites(t *testing.T) {
	for _, g := range []api.Geo{{Size: 128, Blocks: 1344}, {Size: 256, Blocks: 2000}, {Size: 512, Blocks: 4096}} {
		for slot := range 2 {
			old, older, now := superOf(g, 6, true), superOf(g, 5, false), superOf(g, 7, true)
			now.Pages[0], now.Root = now.Root, now.Pages[0]
			two := [2]api.Super{older, older}
			two[slot] = old
			d := pair(t, two[0], two[1])
			if d.Write(super.Other(slot), put(t, now)) != api.OK {
				t.Fatal("no write")
			}
			all := uint64(1)<<(g.Size/64) - 1
			for sectors := range all + 1 {
				c, e := d.Crash([]api.Pick{{Write: 0, Sectors: sectors}})
				if e != api.OK {
					t.Fatalf("Crash: error %d", e)
				}
				complete := wantOldOrNew(t, c, slot, old, now)
				if complete && sectors == 0 || !complete && sectors == all {
					t.Errorf("sectors %x: new %v", sectors, complete)
				}
			}
			wantOldOrNew(t, d, slot, old, now)
		}
	}
}

// P11.3: the block that is being written contains anything
func TestAnyBytes(t *testing.T) {
	r := rand.New(rand.NewPCG(3, 11))
	old, now := superOf(small, 6, true), superOf(small, 7, false)
	a, b := put(t, old), put(t, now)
	for range 20_000 {
		other := []byte(b)
		for range 1 + r.IntN(4) {
			if at := r.IntN(128); r.IntN(3) > 0 {
				other[at] = byte(r.IntN(256))
			} else {
				copy(other[at:], zeros(r.IntN(128)))
			}
		}
		if string(other) == b {
			continue
		}
		wantChosen(t, "bytes behind it", a, string(other), 0, old)
		wantChosen(t, "bytes before it", string(other), a, 1, old)
	}
	for i := range 8 * 128 { // of the older super, too, bits can be inverted
		d := pair(t, old, superOf(small, 5, false))
		if d.Rot(1, i, 1) != api.OK {
			t.Fatal("no bit")
		}
		if slot, s, e := chosen(d); slot != 0 || e != api.OK || !same(s, old) {
			t.Errorf("bit %d: %d, %s, error %d", i, slot, show(s), e)
		}
	}
}

// P11.3: commit by commit, each of them interrupted
func TestCommits(t *testing.T) {
	r := rand.New(rand.NewPCG(4, 11))
	g := api.Geo{Size: 256, Blocks: 500}
	old := shuffled(r, g)
	old.Gen = 1
	d, _ := device.New(g)
	d.Write(0, put(t, old))
	d.Flush()
	changes := 0
	for range 500 {
		slot, s, e := chosen(d)
		if e != api.OK || !same(s, old) {
			t.Fatalf("%d, %s, error %d, want %s", slot, show(s), e, show(old))
		}
		now := shuffled(r, g)
		now.Gen = old.Gen + 1
		d.Write(super.Other(slot), put(t, now))
		c, _ := d.Crash([]api.Pick{{Write: 0, Sectors: r.Uint64N(16) | r.Uint64N(16)}})
		if wantOldOrNew(t, c, slot, old, now) {
			old, changes = now, changes+1
		}
		d = c
	}
	if changes < 50 || changes > 450 {
		t.Errorf("%d changes", changes)
	}
}
