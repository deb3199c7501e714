package super_test

import (
	"math"
	"math/rand/v2"
	"slices"
	"strings"
	"testing"

	"shadowbook/api"
	"shadowbook/super"
)

var small = api.Geo{Size: 128, Blocks: 8}

// P11.1
func TestPages(t *testing.T) {
	for size := 0; size <= 4224; size += 64 {
		for blocks := 0; blocks <= 4200; blocks += 1 + size/1000 {
			g, want := api.Geo{Size: size, Blocks: blocks}, 0
			if isGeo(g) {
				want = (2*blocks + size - 17) / (size - 16)
			}
			if got := super.Pages(g); got != want {
				t.Fatalf("Pages %v: %d, want %d", g, got, want)
			}
		}
	}
	for _, g := range slices.Concat(geos, longGeos) {
		if got := super.Pages(g); got != pagesOf(g) {
			t.Errorf("Pages %v: %d, want %d", g, got, pagesOf(g))
		}
	}
	for _, g := range badGeos {
		if got := super.Pages(g); got != 0 {
			t.Errorf("Pages %v: %d, want 0", g, got)
		}
	}
}

// P11.1
func TestPutByHand(t *testing.T) {
	s := api.Super{Gen: 0x0807060504030201, Geo: api.Geo{Size: 192, Blocks: 0x123}, Root: 0x102, Pages: []uint32{0x103, 2, 0x122, 0x101}}
	head := "\x01\x00\x1e\x00" + "\x01\x02\x03\x04\x05\x06\x07\x08"
	data := "\xc0\x00\x00\x00" + "\x23\x01\x00\x00" + "\x02\x01\x00\x00" + "\x04\x00" +
		"\x03\x01\x00\x00" + "\x02\x00\x00\x00" + "\x22\x01\x00\x00" + "\x01\x01\x00\x00"
	want := sealed(head + data + zeros(192-len(head)-len(data)))
	if b := put(t, s); b != want {
		t.Errorf("Put: %x, want %x", b, want)
	}
	wantGet(t, "by hand", want, s)
}

// P11.1, P11.2
func TestPutAndGet(t *testing.T) {
	for _, s := range supers() {
		if e := super.Check(s); e != api.OK {
			t.Errorf("Check %s: error %d", show(s), e)
		}
		b := put(t, s)
		if len(b) != s.Geo.Size || b != modelOf(s) {
			t.Errorf("Put %s: %x", show(s), b)
		}
		wantGet(t, "what was put", b, s)
	}
}

// P11.1: one wrong thing each, and its ends
func TestWrongSupers(t *testing.T) {
	for _, c := range wrongSupers() {
		wantWrong(t, c.what, c.s, api.ErrArg)
	}
	for _, g := range badGeos {
		wantWrong(t, "geometry", api.Super{Gen: 1, Geo: g, Pages: []uint32{2}}, api.ErrArg)
		wantWrong(t, "geometry without pages", api.Super{Gen: 1, Geo: g}, api.ErrArg)
	}
}

type wrongSuper struct {
	what string
	s    api.Super
}

// wrongSupers are supers that could be encoded, had they nothing wrong.
func wrongSupers() []wrongSuper {
	two := api.Geo{Size: 128, Blocks: 100}
	return []wrongSuper{
		{"Gen 0", api.Super{Gen: 0, Geo: small, Root: 3, Pages: []uint32{2}}},
		{"Root 1", api.Super{Gen: 1, Geo: small, Root: 1, Pages: []uint32{2}}},
		{"Root Blocks", api.Super{Gen: 1, Geo: small, Root: 8, Pages: []uint32{2}}},
		{"the greatest Root", api.Super{Gen: 1, Geo: small, Root: math.MaxUint32, Pages: []uint32{2}}},
		{"Root 2^31", api.Super{Gen: 1, Geo: small, Root: 1 << 31, Pages: []uint32{2}}},
		{"Root among the pages", api.Super{Gen: 1, Geo: small, Root: 2, Pages: []uint32{2}}},
		{"Root is the last page", api.Super{Gen: 1, Geo: two, Root: 99, Pages: []uint32{2, 99}}},
		{"no pages", api.Super{Gen: 1, Geo: small}},
		{"a page too many", api.Super{Gen: 1, Geo: small, Root: 2, Pages: []uint32{3, 4}}},
		{"a page too few", api.Super{Gen: 1, Geo: two, Root: 2, Pages: []uint32{3}}},
		{"page 0", api.Super{Gen: 1, Geo: small, Pages: []uint32{0}}},
		{"page 0 behind another", api.Super{Gen: 1, Geo: two, Pages: []uint32{2, 0}}},
		{"page 1", api.Super{Gen: 1, Geo: small, Root: 2, Pages: []uint32{1}}},
		{"page Blocks", api.Super{Gen: 1, Geo: small, Pages: []uint32{8}}},
		{"the second page Blocks", api.Super{Gen: 1, Geo: two, Root: 4, Pages: []uint32{3, 100}}},
		{"the greatest page", api.Super{Gen: 1, Geo: small, Pages: []uint32{math.MaxUint32}}},
		{"two equal pages", api.Super{Gen: 1, Geo: two, Root: 4, Pages: []uint32{3, 3}}},
		{"two equal pages, Root 0", api.Super{Gen: 1, Geo: two, Pages: []uint32{99, 99}}},
		{"pages far from each other", api.Super{Gen: 1, Geo: api.Geo{Size: 128, Blocks: 150}, Pages: []uint32{9, 8, 9}}},
	}
}

// P11.1: what is not valid is told first
func TestLongSupers(t *testing.T) {
	for _, g := range longGeos {
		s := superOf(g, 7, true)
		wantWrong(t, "long", s, api.ErrLong)
		s.Root = 0
		wantWrong(t, "long, without a root", s, api.ErrLong)
		s.Gen = 0
		wantWrong(t, "long, Gen 0", s, api.ErrArg)
		s = superOf(g, 7, true)
		s.Pages[len(s.Pages)-1] = s.Pages[0]
		wantWrong(t, "long, two equal pages", s, api.ErrArg)
		s = superOf(g, 7, true)
		s.Pages = s.Pages[1:]
		wantWrong(t, "long, a page too few", s, api.ErrArg)
	}
	many := api.Super{Gen: 1, Geo: small, Pages: make([]uint32, 100_000)}
	wantWrong(t, "very many pages", many, api.ErrArg)
}

// P11.1: each geometry whose pages are at the edge of what a super can name
func TestCheckGeometries(t *testing.T) {
	for size := 128; size <= 320; size += 64 {
		for blocks := 8; blocks <= 4096; blocks += 11 {
			s := superOf(api.Geo{Size: size, Blocks: blocks}, 1, false)
			if e := super.Check(s); e != checkOf(s) {
				t.Fatalf("Check %s: error %d, want %d", show(s), e, checkOf(s))
			}
		}
	}
}

// P11.1, P11.2: supers that are changed a little, and the blocks that they would have
func TestChangedSupers(t *testing.T) {
	r := rand.New(rand.NewPCG(1, 11))
	count := map[api.Errno]int{}
	for range 12_000 {
		s := shuffled(r, geos[r.IntN(len(geos))])
		for range r.IntN(3) {
			change(r, &s)
		}
		want := checkOf(s)
		count[want]++
		if e := super.Check(s); e != want {
			t.Fatalf("Check %s: error %d, want %d", show(s), e, want)
		}
		if b, e := super.Put(s); e != want || want != api.OK && b != "" {
			t.Fatalf("Put %s: %d bytes, error %d, want %d", show(s), len(b), e, want)
		}
		if size := s.Geo.Size; isGeo(api.Geo{Size: size, Blocks: 8}) && 14+4*len(s.Pages) <= size-16 {
			wantBlock(t, modelOf(s), s, want == api.OK)
		}
	}
	if count[api.OK] < 500 || count[api.ErrArg] < 500 || count[api.ErrLong] < 10 {
		t.Errorf("too few of one kind: %v", count)
	}
}

// change changes one field, often to what is still valid.
func change(r *rand.Rand, s *api.Super) {
	block := []uint32{0, 1, 2, uint32(s.Geo.Blocks - 1), uint32(s.Geo.Blocks), r.Uint32N(uint32(s.Geo.Blocks)), r.Uint32()}[r.IntN(7)]
	switch r.IntN(7) {
	case 0:
		s.Gen = uint64(r.IntN(2))
	case 1:
		s.Root = block
	case 2:
		s.Geo.Blocks = max(1, s.Geo.Blocks+r.IntN(5)-2)
	case 3:
		s.Geo = longGeos[r.IntN(len(longGeos))]
		*s = superOf(s.Geo, s.Gen, false)
	case 4:
		s.Pages = append(s.Pages, block)
	case 5:
		s.Pages = s.Pages[:max(0, len(s.Pages)-1)]
	case 6:
		if len(s.Pages) > 0 {
			s.Pages[r.IntN(len(s.Pages))] = block
		}
	}
}

func wantBlock(t *testing.T, block string, s api.Super, good bool) {
	t.Helper()
	if good {
		wantGet(t, "a model", block, s)
	} else {
		wantNone(t, show(s), block, api.ErrBad)
	}
}

// P11.2
func TestWrongBlocks(t *testing.T) {
	s := superOf(api.Geo{Size: 192, Blocks: 100}, 5, true)
	data := dataOf(s)
	good := blockOf(192, 1, 5, data)
	wantGet(t, "good", good, s)
	for _, n := range []int{0, 1, 127, 191, 193, 4097, 8192} {
		wantNone(t, "another number of bytes", strings.Repeat(good, 50)[:n], api.ErrArg)
	}
	wantNone(t, "zero bytes", zeros(192), api.ErrCorrupt)
	wantNone(t, "a block of another size, cut off", good[:128], api.ErrCorrupt)
	for tag := range 256 {
		if tag != 1 {
			wantNone(t, "another tag", blockOf(192, byte(tag), 5, data), api.ErrKind)
			wantNone(t, "another tag, wrong data", blockOf(192, byte(tag), 5, "x"), api.ErrKind)
		}
	}
	wantNone(t, "not zero behind the tag", sealed("\x01\x01"+good[2:]), api.ErrBad)
	wantNone(t, "not zero behind the data", sealed(good[:187]+"\x01"+good[188:]), api.ErrBad)
	wantNone(t, "another tag, and not zero behind it", sealed("\x02\x01"+good[2:]), api.ErrBad)
	for i := range 8 * 192 {
		b := []byte(good)
		b[i/8] ^= 1 << (i % 8)
		wantNone(t, "a changed bit", string(b), api.ErrCorrupt)
	}
}

// P11.2
func TestWrongData(t *testing.T) {
	s := superOf(api.Geo{Size: 192, Blocks: 100}, 5, true)
	data := dataOf(s)
	for n := range len(data) {
		wantNone(t, "cut off", blockOf(192, 1, 5, data[:n]), api.ErrBad)
	}
	for n := 1; len(data)+n <= 176; n++ {
		wantNone(t, "followed by zero bytes", blockOf(192, 1, 5, data+zeros(n)), api.ErrBad)
	}
	wantNone(t, "one more page than is said", blockOf(192, 1, 5, data+"\x32\x00\x00\x00"), api.ErrBad)
	wantNone(t, "one page less than is said", blockOf(192, 1, 5, data[:12]+"\x03"+data[13:]), api.ErrBad)
	wantNone(t, "the high byte of their number", blockOf(192, 1, 5, data[:13]+"\x01"+data[14:]), api.ErrBad)
	wantNone(t, "Gen 0", blockOf(192, 1, 0, data), api.ErrBad)
	for _, size := range []int{128, 256, 4096} {
		wantNone(t, "in a block of another size", blockOf(size, 1, 5, data), api.ErrBad)
	}
	for _, c := range wrongSupers() {
		wantNone(t, c.what, modelOf(c.s), api.ErrBad)
	}
	for _, g := range badGeos {
		wantNone(t, "geometry", blockOf(128, 1, 5, dataOf(api.Super{Gen: 1, Geo: g, Pages: []uint32{2}})), api.ErrBad)
	}
}

// P11.2: each bit of the data changed, and the checksum with it
func TestChangedData(t *testing.T) {
	for _, s := range []api.Super{superOf(small, 1, true), superOf(api.Geo{Size: 192, Blocks: 300}, 1<<40, false), superOf(api.Geo{Size: 128, Blocks: 1344}, 3, true)} {
		b := put(t, s)
		for i := range 8 * (12 + len(dataOf(s))) {
			c := []byte(b)
			c[i/8] ^= 1 << (i % 8)
			changed := sealed(string(c))
			got, e := super.Get(changed)
			if e != api.OK && !isZero(got) {
				t.Errorf("bit %d: %s beside error %d", i, show(got), e)
			}
			if e == api.OK && (checkOf(got) != api.OK || modelOf(got) != changed) {
				t.Errorf("bit %d: %s, which has another block", i, show(got))
			}
			if at := i / 8; e == api.OK && (at < 4 || at >= 12 && at < 16 || at >= 24 && at < 26) {
				t.Errorf("bit %d of the head changed: %s", i, show(got))
			}
		}
	}
}

// P11.2: what is put is read again from a block of each size
func TestEverySize(t *testing.T) {
	for size := 128; size <= 4096; size += 64 {
		s := superOf(api.Geo{Size: size, Blocks: 1000}, uint64(size), true)
		b := put(t, s)
		if b != modelOf(s) {
			t.Errorf("Put %s: %x", show(s), b)
		}
		wantGet(t, "of each size", b, s)
	}
}

// P11.1, P11.2: what is passed and what is returned don't share memory
func TestNewMemory(t *testing.T) {
	s := superOf(api.Geo{Size: 128, Blocks: 200}, 9, true)
	all := append(slices.Clone(s.Pages), 77, 78, 79)
	was := slices.Clone(all)
	s.Pages = all[:len(s.Pages)]
	b := put(t, s)
	if super.Check(s) != api.OK || !slices.Equal(all, was) {
		t.Errorf("the pages passed are %v now, not %v", all, was)
	}
	clear(all)
	one, _ := super.Get(b)
	two, _ := super.Get(b)
	_, three, _ := super.Choose(b, b)
	_ = append(one.Pages, 1, 2, 3)
	clear(one.Pages[:cap(one.Pages)])
	for _, s := range []api.Super{two, three} {
		if !slices.Equal(s.Pages, was[:len(s.Pages)]) || len(s.Pages) != len(was)-3 {
			t.Errorf("pages %v, want %v", s.Pages, was)
		}
	}
}
