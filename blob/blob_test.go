package blob_test

import (
	"fmt"
	"math"
	"slices"
	"strings"
	"testing"

	"shadowbook/api"
	"shadowbook/blob"
	"shadowbook/counts"
	"shadowbook/device"
	"shadowbook/frame"
	"shadowbook/space"
	"shadowbook/super"
)

// the chapter's example
func TestExample(t *testing.T) {
	r := start(t, small)
	free := r.s.Free()
	n := r.put("300 bytes", strings.Repeat("x", 300))
	p := r.get("300 bytes", n)
	if free-r.s.Free() != 4 || len(p.Kids) != 3 || r.s.Count(n) != 1 {
		t.Errorf("%d pages, %d kids, count %d", free-r.s.Free(), len(p.Kids), r.s.Count(n))
	}
	r.want("300 bytes", n, strings.Repeat("x", 300))
}

// P15.1: the most bytes, by the pages that an index page can refer to, or MaxBytes
func TestMost(t *testing.T) {
	for size := api.MinSize; size <= api.MaxSize; size += api.Sector {
		g := api.Geo{Size: size, Blocks: 256}
		r := start(t, g)
		before := r.state()
		if got := blob.Most(r.s); got != most(g) {
			t.Errorf("size %d: %d, want %d", size, got, most(g))
		}
		if !slices.Equal(r.state(), before) {
			t.Errorf("size %d: something has changed", size)
		}
	}
	for size, want := range map[int]int{128: 2860, 192: 7308, 512: 60268, 576: 65536, 640: 65536, 4096: 65536} {
		if got := blob.Most(start(t, api.Geo{Size: size, Blocks: 256}).s); got != want {
			t.Errorf("size %d: %d, want %d", size, got, want)
		}
	}
}

// P15.1: how many blocks there are, and how many are free, does not matter
func TestMostOfFew(t *testing.T) {
	for _, blocks := range []int{8, 9, 56, 57, 4096} {
		r := start(t, api.Geo{Size: 256, Blocks: blocks})
		want := 58 * 238
		if got := blob.Most(r.s); got != want {
			t.Errorf("%d blocks: %d, want %d", blocks, got, want)
		}
		r.fill()
		if got := blob.Most(r.s); got != want {
			t.Errorf("%d blocks, full: %d, want %d", blocks, got, want)
		}
	}
}

// holes puts pages between which there are free blocks.
func (r *run) holes() []uint32 {
	var kept, gone []uint32
	for i := range 12 {
		if n := r.page(api.TagData, "hole"); i%3 == 0 {
			gone = append(gone, n)
		} else {
			kept = append(kept, n)
		}
	}
	for _, n := range gone {
		r.drop("holes", n)
	}
	return kept
}

// P15.1, P15.2: blobs of all lengths at which something ends
func TestLengths(t *testing.T) {
	for _, g := range geos {
		for _, length := range lengths(g) {
			r := start(t, g)
			kept := r.holes()
			free, ops := r.free(), r.d.Ops()
			why, b := fmt.Sprintf("%v: %d bytes", g, length), text(length, length)
			n := r.put(why, b)
			k := pagesOf(g, length)
			if kids := r.get(why, n).Kids; !slices.Equal(kids, free[:k]) || n != free[k] {
				t.Errorf("%s: index %d, pages %v, want %d, %v", why, n, kids, free[k], free[:k])
			}
			if r.d.Ops()-ops != k+1 || r.s.Free() != len(free)-k-1 {
				t.Errorf("%s: %d writes, %d free, want %d, %d", why, r.d.Ops()-ops, r.s.Free(), k+1, len(free)-k-1)
			}
			for _, page := range free[:k+1] {
				if r.s.Count(page) != 1 {
					t.Errorf("%s: count of page %d: %d", why, page, r.s.Count(page))
				}
			}
			r.want(why, n, b)
			r.audit(why, append(kept, n)...)
			r.drop(why, n)
			r.audit(why, kept...)
			if !slices.Equal(r.free(), free) {
				t.Errorf("%s: dropped: %d free, want %d", why, len(r.free()), len(free))
			}
		}
	}
}

// P15.1: every length that takes up to five pages
func TestEachLength(t *testing.T) {
	r := start(t, small)
	free := r.free()
	for length := range 5*room(small) + 1 {
		why, b := fmt.Sprint(length, " bytes"), text(7, length)
		n := r.put(why, b)
		r.want(why, n, b)
		r.audit(why, n)
		r.drop(why, n)
	}
	if !slices.Equal(r.free(), free) {
		t.Errorf("%d free, want %d", len(r.free()), len(free))
	}
}

// P15.1: the bytes can be any
func TestBytes(t *testing.T) {
	for _, g := range geos {
		r := start(t, g)
		for c := range 256 {
			why, b := fmt.Sprintf("%v: byte %d", g, c), strings.Repeat(string([]byte{byte(c)}), room(g)+c+1)
			n := r.put(why, b)
			r.want(why, n, b)
			r.drop(why, n)
		}
		for i, b := range []string{"\x00", "é", "\xff\xfe", "\x00\x00\x00\x00", strings.Repeat("\x00", 2*room(g))} {
			r.want(fmt.Sprint("string ", i), r.put("a string", b), b)
		}
	}
}

// P15.1: one byte too many, and more of them
func TestTooLong(t *testing.T) {
	for _, g := range geos {
		r := start(t, g)
		r.put("one", "a")
		before := r.state()
		for _, length := range []int{most(g) + 1, most(g) + 2, most(g) + room(g), 65537, 1 << 17, 1 << 20} {
			r.fails(fmt.Sprint(g), strings.Repeat("a", length), api.ErrLong)
		}
		if !slices.Equal(r.state(), before) {
			t.Errorf("%v: something was written", g)
		}
	}
}

// P15.1: there are too few blocks for some of the pages, or for the index
func TestNoSpace(t *testing.T) {
	g := api.Geo{Size: 128, Blocks: 20}
	for spare := range 8 { // beside the block that is for the next commit
		for length := range 7 * room(g) {
			if length%37 > 1 && length%room(g) > 1 {
				continue
			}
			r := start(t, g)
			var kept []uint32
			for r.s.Free() > spare+1 {
				kept = append(kept, r.page(api.TagData, ""))
			}
			why, b := fmt.Sprintf("%d spare, %d bytes", spare, length), text(spare, length)
			if pagesOf(g, length)+1 > spare {
				r.fails(why, b, api.ErrFull)
			} else {
				n := r.put(why, b)
				r.want(why, n, b)
				kept = append(kept, n)
			}
			r.audit(why, kept...)
			r.commit(why, 0)
		}
	}
}

// P15.1: what is held, or marked, is not free
func TestNoSpaceHeld(t *testing.T) {
	r := start(t, api.Geo{Size: 128, Blocks: 20})
	old := text(1, 800)
	n := r.put("old", old)
	r.commit("old", n)
	if r.s.Mark() != api.OK {
		t.Fatal("Mark")
	}
	r.drop("old", n)
	r.fails("held", text(2, 800), api.ErrFull)
	r.fails("held", text(3, 780), api.ErrFull)
	few := r.put("held", text(4, 300))
	r.want("held", few, text(4, 300))
	r.audit("held", few)
	if r.s.Back() != api.OK {
		t.Fatal("Back")
	}
	r.want("marked", n, old)
	r.audit("marked", n)
	r.drop("old", n)
	r.commit("nothing", 0)
	now := r.put("now", text(2, 800))
	r.want("now", now, text(2, 800))
	r.audit("now", now)
}

// rule 1: the length counts before the errors of space
func TestErrorOrder(t *testing.T) {
	r := start(t, small)
	r.fill()
	r.fails("full", strings.Repeat("a", most(small)+1), api.ErrLong)
	r.fails("full", strings.Repeat("a", most(small)), api.ErrFull)
	r.fails("full", "", api.ErrFull)
	r.d.Fuse(0)
	r.fails("full, with a fuse", strings.Repeat("a", most(small)+1), api.ErrLong)
}

// P15.1: the device stops at each of the writes
func TestFuse(t *testing.T) {
	for writes := range 5 {
		r := start(t, small)
		r.d.Fuse(writes)
		n, e := blob.Put(r.s, three)
		switch {
		case writes < 4 && (n != 0 || e != api.ErrState):
			t.Errorf("%d writes: %d, error %d", writes, n, e)
		case writes == 4 && (n == 0 || e != api.OK):
			t.Errorf("%d writes: %d, error %d", writes, n, e)
		}
	}
}

// last makes a space whose generation is the greatest.
func last(t *testing.T) *run {
	t.Helper()
	d, e := device.New(small)
	if e != api.OK {
		t.Fatalf("error %d", e)
	}
	c, e := counts.New(small)
	if e != api.OK {
		t.Fatalf("error %d", e)
	}
	var pages []uint32
	for range super.Pages(small) {
		n, e := c.Take(nil)
		if e != api.OK {
			t.Fatalf("error %d", e)
		}
		pages = append(pages, n)
	}
	for i, data := range c.Pages() {
		page, e := frame.Put(small.Size, api.Frame{Tag: api.TagCounts, Gen: math.MaxUint64, Data: data})
		if e != api.OK || d.Write(int(pages[i]), page) != api.OK {
			t.Fatalf("error %d", e)
		}
	}
	block, e := super.Put(api.Super{Gen: math.MaxUint64, Geo: small, Pages: pages})
	if e != api.OK || d.Write(0, block) != api.OK {
		t.Fatalf("error %d", e)
	}
	s, e := space.Open(d)
	if e != api.OK {
		t.Fatalf("Open: error %d", e)
	}
	return &run{t, d, s}
}

// P15.1: no page can be put any more
func TestLastGeneration(t *testing.T) {
	r := last(t)
	before := r.state()
	r.fails("the last generation", "", api.ErrLimit)
	r.fails("the last generation", three, api.ErrLimit)
	r.fails("the last generation", strings.Repeat("a", most(small)+1), api.ErrLong)
	if !slices.Equal(r.state(), before) {
		t.Error("something was written")
	}
}

// rule 7
func TestNotSpaces(t *testing.T) {
	for i, s := range notSpaces(t) {
		for _, b := range []string{"", "a", three, strings.Repeat("a", 1<<17)} {
			if n, e := blob.Put(s, b); n != 0 || e != api.ErrNil {
				t.Errorf("space %d: Put of %d bytes: %d, error %d", i, len(b), n, e)
			}
		}
		for _, n := range []uint32{0, 1, 2, 3, 1 << 20, math.MaxUint32} {
			if b, e := blob.Get(s, n); b != "" || e != api.ErrNil {
				t.Errorf("space %d: Get %d: %d bytes, error %d", i, n, len(b), e)
			}
			if size, e := blob.Size(s, n); size != 0 || e != api.ErrNil {
				t.Errorf("space %d: Size %d: %d, error %d", i, n, size, e)
			}
			if l := collect(s, n); len(l) != 0 {
				t.Errorf("space %d: Parts %d: %d of them", i, n, len(l))
			}
		}
		if n := blob.Most(s); n != 0 {
			t.Errorf("space %d: Most: %d", i, n)
		}
	}
}
