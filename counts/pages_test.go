package counts_test

import (
	"math/rand/v2"
	"slices"
	"strings"
	"testing"

	"shadowbook/api"
	"shadowbook/counts"
	"shadowbook/super"
)

// P12.2
func TestPagesByHand(t *testing.T) {
	c := fresh(t, small)
	wantTake(t, "new", c, nil, 2, api.OK)
	wantTake(t, "new", c, nil, 3, api.OK)
	wantSub(t, "new", c, 2, 0, api.OK)
	for range 0x0201 {
		wantAdd(t, "taken", c, 3, api.OK)
	}
	if got, want := c.Pages(), []string{"\x01\x00\x01\x00\x00\x00\x02\x02\x00\x00\x00\x00\x00\x00\x00\x00"}; !slices.Equal(got, want) {
		t.Errorf("%x, want %x", got, want)
	}
	g := api.Geo{Size: 128, Blocks: 58}
	all := newOf(g)
	all[55], all[56], all[57] = 0xfffe, 0x0103, 0xff00
	want := []string{"\x01\x00\x01\x00" + strings.Repeat("\x00", 106) + "\xfe\xff", "\x03\x01\x00\xff"}
	if got := load(t, g, all).Pages(); !slices.Equal(got, want) {
		t.Errorf("%x, want %x", got, want)
	}
}

// P12.2: there are as many pages as a super (11) names, for each number of blocks
func TestPagesOfEachGeometry(t *testing.T) {
	for size := 128; size <= 4096; size += 64 {
		for blocks := 8; blocks <= 4096; blocks += 1 + size/2 {
			g := api.Geo{Size: size, Blocks: blocks}
			pages := fresh(t, g).Pages()
			if len(pages) != super.Pages(g) || !slices.Equal(pages, pagesOf(g, newOf(g))) {
				t.Fatalf("%v: %d pages, want %d: %x", g, len(pages), super.Pages(g), pages)
			}
		}
	}
}

// counted are counts of each kind: few, all, small, great ones.
func counted(g api.Geo) [][]int {
	r := rand.New(rand.NewPCG(12, uint64(g.Size*g.Blocks)))
	l := [][]int{newOf(g), newOf(g), newOf(g), newOf(g), newOf(g)}
	for n := 2; n < g.Blocks; n++ {
		l[1][n] = 65535
		l[2][n] = r.IntN(65536)
		l[3][n] = max(0, r.IntN(6)-3)
		l[4][n] = (n*257 + 1) % 65536
	}
	return l
}

// P12.1, P12.3
func TestLoadOfPages(t *testing.T) {
	for _, g := range geos {
		for _, all := range counted(g) {
			c := load(t, g, all)
			wantAll(t, "Load", g, c, all)
			d, e := counts.Load(g, c.Pages())
			if e != api.OK {
				t.Fatalf("Load of Pages, %v: error %d", g, e)
			}
			wantAll(t, "Load of Pages", g, d, all)
			wantAll(t, "Load of Pages of a clone", g, load(t, g, d.Clone().All()), all)
		}
	}
}

// P12.3: what was taken, added and subtracted is loaded again
func TestLoadOfCalls(t *testing.T) {
	r := rand.New(rand.NewPCG(12, 3))
	for _, g := range []api.Geo{small, {Size: 128, Blocks: 113}, {Size: 192, Blocks: 200}} {
		c := fresh(t, g)
		for range 2_000 {
			n := r.Uint32N(uint32(g.Blocks))
			switch r.IntN(4) {
			case 0:
				c.Take(nil)
			case 1:
				c.Sub(n)
			default:
				c.Add(n)
			}
			d, e := counts.Load(g, c.Pages())
			if e != api.OK || !slices.Equal(d.All(), c.All()) {
				t.Fatalf("Load of Pages, %v: error %d, %v, want %v", g, e, d.All(), c.All())
			}
		}
	}
}

// P12.1: what was loaded can be used like what is new, and does not change with the pages or with what they are of
func TestLoaded(t *testing.T) {
	g := api.Geo{Size: 128, Blocks: 60}
	c := fresh(t, g)
	wantTake(t, "new", c, nil, 2, api.OK)
	pages := c.Pages()
	more := append(slices.Clone(pages), "spare")
	d, e := counts.Load(g, more[:2])
	if e != api.OK || !slices.Equal(more, append(pages, "spare")) {
		t.Fatalf("Load: error %d, %x", e, more)
	}
	clear(more)
	wantAdd(t, "what the pages are of", c, 2, api.OK)
	wantTake(t, "what the pages are of", c, nil, 3, api.OK)
	all := newOf(g)
	all[2] = 1
	wantAll(t, "Load", g, d, all)
	wantTake(t, "loaded", d, c, 4, api.OK)
	wantTake(t, "loaded", d, nil, 3, api.OK)
	wantAdd(t, "loaded", d, 4, api.OK)
	wantSub(t, "loaded", d, 2, 0, api.OK)
	all[2], all[3], all[4] = 0, 1, 2
	wantAll(t, "loaded, and changed", g, d, all)
}

// wantNone fails unless Load returns that error and nothing else.
func wantNone(t *testing.T, what string, g api.Geo, pages []string, want api.Errno) {
	t.Helper()
	if c, e := counts.Load(g, pages); c != nil || e != want {
		t.Errorf("Load, %s, %v: %v, error %d, want error %d", what, g, c != nil, e, want)
	}
}

// P12.1: the geometry is looked at first
func TestLoadOfNoGeometry(t *testing.T) {
	for _, g := range badGeos {
		for _, pages := range [][]string{nil, {""}, {"x"}, fresh(t, small).Pages(), make([]string, 100)} {
			wantNone(t, "no geometry", g, pages, api.ErrArg)
		}
	}
}

// P12.1
func TestLoadOfWrongPages(t *testing.T) {
	for _, g := range geos {
		good := pagesOf(g, newOf(g))
		last := good[len(good)-1]
		wantNone(t, "nil", g, nil, api.ErrBad)
		wantNone(t, "none", g, []string{}, api.ErrBad)
		wantNone(t, "a page too few", g, good[:len(good)-1], api.ErrBad)
		wantNone(t, "the first page is not there", g, good[1:], api.ErrBad)
		for _, more := range []string{"", "\x00\x00", last, good[0]} {
			wantNone(t, "a page too many", g, append(slices.Clone(good), more), api.ErrBad)
		}
		wantNone(t, "one page of all", g, []string{strings.Join(good, ""), ""}, api.ErrBad)
		for i, page := range good {
			for _, wrong := range []string{"", page[1:], page[2:], page[:len(page)-1], page[:len(page)-2], page + "\x00", page + "\x00\x00", page + page} {
				pages := slices.Clone(good)
				pages[i] = wrong
				wantNone(t, "another number of bytes", g, pages, api.ErrBad)
			}
		}
		if room := g.Size - 16; len(last) < room {
			pages := append(slices.Clone(good[:len(good)-1]), last+strings.Repeat("\x00", room-len(last)))
			wantNone(t, "the last page is filled", g, pages, api.ErrBad)
		}
		if len(good) > 1 && len(last) > 2 {
			pages := slices.Clone(good)
			pages[0] += last[:2]
			pages[len(pages)-1] = last[2:]
			wantNone(t, "a count is one page ahead", g, pages, api.ErrBad)
			pages[0] = good[0][:len(good[0])-2]
			pages[len(pages)-1] = "\x00\x00" + last
			wantNone(t, "a count is one page behind", g, pages, api.ErrBad)
		}
	}
}

// P12.1: the superblocks have one reference each
func TestLoadOfWrongSupers(t *testing.T) {
	for _, g := range geos {
		for _, n := range []int{0, 2, 3, 0x100, 0x101, 0x201, 0xff01, 0x8001, 65535} {
			for block := range 2 {
				all := newOf(g)
				all[block] = n
				wantNone(t, "a superblock", g, pagesOf(g, all), api.ErrBad)
				all[2] = 1
				wantNone(t, "a superblock, and another block", g, pagesOf(g, all), api.ErrBad)
			}
			all := newOf(g)
			all[0], all[1] = n, n
			wantNone(t, "both superblocks", g, pagesOf(g, all), api.ErrBad)
			all = newOf(g)
			all[2] = n
			wantAll(t, "no superblock", g, load(t, g, all), all)
		}
	}
	all := newOf(small)
	all[0], all[1] = 0, 2
	wantNone(t, "two for both", small, pagesOf(small, all), api.ErrBad)
}
