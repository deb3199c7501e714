package counts_test

import (
	"math"
	"slices"
	"testing"

	"shadowbook/api"
	"shadowbook/counts"
)

// small is the least geometry.
var small = api.Geo{Size: 128, Blocks: 8}

// geos are the ends of the limits, some between them, and those at which a page more is needed, or two.
var geos = []api.Geo{
	{Size: 128, Blocks: 8}, {Size: 128, Blocks: 9}, {Size: 128, Blocks: 55}, {Size: 128, Blocks: 56}, {Size: 128, Blocks: 57}, {Size: 128, Blocks: 112},
	{Size: 128, Blocks: 113}, {Size: 128, Blocks: 1345}, {Size: 128, Blocks: 4096}, {Size: 192, Blocks: 88}, {Size: 192, Blocks: 89}, {Size: 192, Blocks: 4096},
	{Size: 512, Blocks: 1000}, {Size: 4032, Blocks: 300}, {Size: 4096, Blocks: 8}, {Size: 4096, Blocks: 2040}, {Size: 4096, Blocks: 2041}, {Size: 4096, Blocks: 4096},
}

// badGeos are next to the limits, between valid ones, and far from them.
var badGeos = []api.Geo{
	{}, {Size: 128}, {Blocks: 8}, {Size: 64, Blocks: 8}, {Size: 127, Blocks: 8}, {Size: 129, Blocks: 8}, {Size: 160, Blocks: 8}, {Size: 4160, Blocks: 8},
	{Size: 128, Blocks: 7}, {Size: 128, Blocks: 1}, {Size: 128, Blocks: 4097}, {Size: 4096, Blocks: 4097}, {Size: -128, Blocks: 8}, {Size: 128, Blocks: -8},
	{Size: 1 << 20, Blocks: 1 << 20}, {Size: math.MinInt, Blocks: math.MaxInt}, {Size: math.MaxInt - 63, Blocks: 8}, {Size: 128, Blocks: math.MinInt},
}

// noBlocks are numbers of no block, and those of the superblocks.
func noBlocks(g api.Geo) []uint32 {
	n := uint32(g.Blocks)
	return []uint32{0, 1, n, n + 1, 1 << 16, 1<<16 + 2, 1 << 31, 1<<31 + 2, math.MaxUint32 - 1, math.MaxUint32}
}

// invalid are counts that were not returned by New, Load or Clone.
func invalid(t *testing.T) []*counts.Counts {
	t.Helper()
	copied := *fresh(t, small)
	return []*counts.Counts{nil, {}, new(counts.Counts), &copied}
}

// fresh is new counts, or the end of the test.
func fresh(t *testing.T, g api.Geo) *counts.Counts {
	t.Helper()
	c, e := counts.New(g)
	if e != api.OK || c == nil {
		t.Fatalf("New %v: error %d", g, e)
	}
	return c
}

// load is the counts of these numbers, or the end of the test.
func load(t *testing.T, g api.Geo, all []int) *counts.Counts {
	t.Helper()
	c, e := counts.Load(g, pagesOf(g, all))
	if e != api.OK || c == nil {
		t.Fatalf("Load %v: error %d", g, e)
	}
	return c
}

// newOf are the counts that New returns.
func newOf(g api.Geo) []int {
	all := make([]int, g.Blocks)
	all[0], all[1] = 1, 1
	return all
}

// usedOf is how many counts are above 0.
func usedOf(all []int) int {
	used := 0
	for _, n := range all {
		used += min(n, 1)
	}
	return used
}

// pagesOf are the pages of counts, valid or not, filled byte by byte.
func pagesOf(g api.Geo, all []int) []string {
	var pages []string
	var page []byte
	for _, n := range all {
		for _, b := range []byte{byte(n), byte(n >> 8)} {
			if len(page) == g.Size-16 {
				pages, page = append(pages, string(page)), nil
			}
			page = append(page, b)
		}
	}
	return append(pages, string(page))
}

// wantAll fails unless the counts are these, however they are asked for.
func wantAll(t *testing.T, what string, g api.Geo, c *counts.Counts, all []int) {
	t.Helper()
	if got := c.All(); !slices.Equal(got, all) {
		t.Fatalf("%s, %v: All %v, want %v", what, g, got, all)
	}
	for n, want := range all {
		if got := c.Get(uint32(n)); got != want {
			t.Fatalf("%s, %v: Get %d: %d, want %d", what, g, n, got, want)
		}
	}
	if got := c.Used(); got != usedOf(all) {
		t.Fatalf("%s, %v: Used %d, want %d", what, g, got, usedOf(all))
	}
	if got := c.Pages(); !slices.Equal(got, pagesOf(g, all)) {
		t.Fatalf("%s, %v: Pages %x, want %x", what, g, got, pagesOf(g, all))
	}
}

// wantAdd fails unless Add returns that error.
func wantAdd(t *testing.T, what string, c *counts.Counts, n uint32, want api.Errno) {
	t.Helper()
	if e := c.Add(n); e != want {
		t.Errorf("%s: Add %d: error %d, want %d", what, n, e, want)
	}
}

// wantSub fails unless Sub returns that count and that error.
func wantSub(t *testing.T, what string, c *counts.Counts, n uint32, left int, want api.Errno) {
	t.Helper()
	if got, e := c.Sub(n); got != left || e != want {
		t.Errorf("%s: Sub %d: %d, error %d, want %d, error %d", what, n, got, e, left, want)
	}
}

// wantTake fails unless Take returns that block and that error.
func wantTake(t *testing.T, what string, c, held *counts.Counts, n uint32, want api.Errno) {
	t.Helper()
	if got, e := c.Take(held); got != n || e != want {
		t.Errorf("%s: Take: %d, error %d, want %d, error %d", what, got, e, n, want)
	}
}
