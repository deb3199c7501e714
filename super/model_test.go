package super_test

import (
	"encoding/binary"
	"fmt"
	"hash/crc32"
	"math/rand/v2"
	"slices"
	"strings"
	"testing"

	"shadowbook/api"
	"shadowbook/super"
)

// geos are the ends of the limits, some between them, and those at which a page more is needed.
var geos = []api.Geo{
	{Size: 128, Blocks: 8}, {Size: 128, Blocks: 56}, {Size: 128, Blocks: 57}, {Size: 128, Blocks: 112}, {Size: 128, Blocks: 113},
	{Size: 128, Blocks: 1344}, {Size: 192, Blocks: 8}, {Size: 192, Blocks: 89}, {Size: 192, Blocks: 3520}, {Size: 256, Blocks: 4096},
	{Size: 512, Blocks: 1000}, {Size: 4032, Blocks: 300}, {Size: 4096, Blocks: 8}, {Size: 4096, Blocks: 2040}, {Size: 4096, Blocks: 2041}, {Size: 4096, Blocks: 4096},
}

// longGeos are those whose pages of counts don't fit into a super.
var longGeos = []api.Geo{{Size: 128, Blocks: 1345}, {Size: 128, Blocks: 4096}, {Size: 192, Blocks: 3521}, {Size: 192, Blocks: 4096}}

// badGeos are next to the limits, between valid ones, and far from them.
var badGeos = []api.Geo{
	{}, {Size: 128}, {Blocks: 8}, {Size: 64, Blocks: 8}, {Size: 127, Blocks: 8}, {Size: 129, Blocks: 8}, {Size: 160, Blocks: 8}, {Size: 4160, Blocks: 8},
	{Size: 128, Blocks: 7}, {Size: 128, Blocks: 4097}, {Size: 4096, Blocks: 4097}, {Size: -128, Blocks: 8}, {Size: 128, Blocks: -8},
	{Size: 1 << 20, Blocks: 1 << 20}, {Size: -1 << 63, Blocks: 1<<63 - 1}, {Size: 1<<63 - 64, Blocks: 8}, {Size: 128, Blocks: -1 << 63},
}

// pagesOf is how many pages hold so many numbers of two bytes, filled one by one.
func pagesOf(g api.Geo) int {
	pages, left := 0, 0
	for range g.Blocks {
		if left < 2 {
			pages, left = pages+1, g.Size-16
		}
		left -= 2
	}
	return pages
}

// isGeo is whether a geometry is valid.
func isGeo(g api.Geo) bool {
	return g.Size%64 == 0 && g.Size >= 128 && g.Size <= 4096 && g.Blocks >= 8 && g.Blocks <= 4096
}

// checkOf is what Check returns.
func checkOf(s api.Super) api.Errno {
	if !isGeo(s.Geo) || s.Gen == 0 || len(s.Pages) != pagesOf(s.Geo) {
		return api.ErrArg
	}
	all := slices.Clone(s.Pages)
	if s.Root != 0 {
		all = append(all, s.Root)
	}
	slices.Sort(all)
	if all[0] < 2 || int64(all[len(all)-1]) >= int64(s.Geo.Blocks) || len(slices.Compact(all)) != len(s.Pages)+min(1, int(s.Root)) {
		return api.ErrArg
	}
	if 14+4*len(s.Pages) > s.Geo.Size-16 {
		return api.ErrLong
	}
	return api.OK
}

// dataOf are the data of a super, valid or not.
func dataOf(s api.Super) string {
	var b []byte
	for _, v := range []int{s.Geo.Size, s.Geo.Blocks, int(s.Root)} {
		b = binary.LittleEndian.AppendUint32(b, uint32(v))
	}
	b = binary.LittleEndian.AppendUint16(b, uint16(len(s.Pages)))
	for _, page := range s.Pages {
		b = binary.LittleEndian.AppendUint32(b, page)
	}
	return string(b)
}

// blockOf is a block, with a checksum that is right.
func blockOf(size int, tag byte, gen uint64, data string) string {
	b := binary.LittleEndian.AppendUint16([]byte{tag, 0}, uint16(len(data)))
	b = append(binary.LittleEndian.AppendUint64(b, gen), data...)
	return sealed(string(append(b, make([]byte, size-len(b))...)))
}

// sealed are the bytes with the checksum that belongs to them.
func sealed(s string) string {
	b := []byte(s)
	end := len(b) - 4
	binary.LittleEndian.PutUint32(b[end:], crc32.Checksum(b[:end], crc32.MakeTable(crc32.Castagnoli)))
	return string(b)
}

// modelOf is the block of a super, valid or not, but not a long one.
func modelOf(s api.Super) string {
	return blockOf(s.Geo.Size, 1, s.Gen, dataOf(s))
}

// superOf is a valid super: its pages are those from the last block on, downwards, its root is the one below them, or 0.
func superOf(g api.Geo, gen uint64, root bool) api.Super {
	s := api.Super{Gen: gen, Geo: g}
	for i := range pagesOf(g) {
		s.Pages = append(s.Pages, uint32(g.Blocks-1-i))
	}
	if root {
		s.Root = uint32(g.Blocks - 1 - len(s.Pages))
	}
	return s
}

// shuffled is a valid super with any pages, and any root or none.
func shuffled(r *rand.Rand, g api.Geo) api.Super {
	n := pagesOf(g)
	s := api.Super{Gen: 1 + r.Uint64N(1<<r.IntN(64)), Geo: g}
	for i, page := range r.Perm(g.Blocks - 2)[:n+1] {
		if i < n {
			s.Pages = append(s.Pages, uint32(page+2))
		} else if r.IntN(3) > 0 {
			s.Root = uint32(page + 2)
		}
	}
	return s
}

// supers are valid ones: the ends of each field.
func supers() []api.Super {
	r := rand.New(rand.NewPCG(11, 11))
	var all []api.Super
	for _, g := range geos {
		for _, gen := range []uint64{1, 2, 255, 256, 0x0123456789abcdef, 1<<63 - 1, 1 << 63, 1<<64 - 1} {
			all = append(all, superOf(g, gen, false), superOf(g, gen, true))
		}
		for range 20 {
			all = append(all, shuffled(r, g))
		}
	}
	return all
}

// same is whether two supers are equal: the pages by their order, too.
func same(a, b api.Super) bool {
	return a.Gen == b.Gen && a.Geo == b.Geo && a.Root == b.Root && slices.Equal(a.Pages, b.Pages)
}

// isZero is whether nothing is in a super.
func isZero(s api.Super) bool {
	return same(s, api.Super{})
}

// show is a super in words.
func show(s api.Super) string {
	return fmt.Sprintf("Gen %d, %d blocks of %d, Root %d, %d pages %v", s.Gen, s.Geo.Blocks, s.Geo.Size, s.Root, len(s.Pages), s.Pages[:min(len(s.Pages), 8)])
}

// put is the block of a super, or the end of the test.
func put(t *testing.T, s api.Super) string {
	t.Helper()
	b, e := super.Put(s)
	if e != api.OK {
		t.Fatalf("Put %s: error %d", show(s), e)
	}
	return b
}

// zeros is a block that was never written.
func zeros(size int) string {
	return strings.Repeat("\x00", size)
}

// wantGet fails unless Get returns that super.
func wantGet(t *testing.T, what, block string, want api.Super) {
	t.Helper()
	if s, e := super.Get(block); e != api.OK || !same(s, want) {
		t.Errorf("Get, %s: %s, error %d, want %s", what, show(s), e, show(want))
	}
}

// wantNone fails unless Get returns that error and nothing else.
func wantNone(t *testing.T, what, block string, want api.Errno) {
	t.Helper()
	if s, e := super.Get(block); e != want || !isZero(s) {
		t.Errorf("Get, %s: %s, error %d, want error %d", what, show(s), e, want)
	}
}

// wantWrong fails unless Check and Put return that error, and Put nothing else.
func wantWrong(t *testing.T, what string, s api.Super, want api.Errno) {
	t.Helper()
	if e := super.Check(s); e != want {
		t.Errorf("Check, %s: error %d, want %d", what, e, want)
	}
	if b, e := super.Put(s); e != want || b != "" {
		t.Errorf("Put, %s: %d bytes, error %d, want error %d", what, len(b), e, want)
	}
}

// wantChosen fails unless Choose returns that slot, with that super.
func wantChosen(t *testing.T, what, a, b string, slot int, want api.Super) {
	t.Helper()
	if n, s, e := super.Choose(a, b); n != slot || e != api.OK || !same(s, want) {
		t.Errorf("Choose, %s: %d, %s, error %d, want %d, %s", what, n, show(s), e, slot, show(want))
	}
}
