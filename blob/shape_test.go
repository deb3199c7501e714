package blob_test

import (
	"fmt"
	"math"
	"slices"
	"strings"
	"testing"

	"shadowbook/api"
	"shadowbook/blob"
)

// parts puts the pages of a blob, without its index.
func (r *run) parts(b string) []uint32 {
	r.t.Helper()
	var kids []uint32
	for _, part := range cut(r.d.Geo(), b) {
		kids = append(kids, r.page(api.TagData, part))
	}
	return kids
}

// P15.2: blobs that were put page by page
func TestByHand(t *testing.T) {
	for _, g := range geos {
		for _, length := range lengths(g) {
			r, b := start(t, g), text(length, length)
			kids := r.parts(b)
			why := fmt.Sprintf("%v: %d bytes", g, length)
			r.want(why, r.page(api.TagIndex, number(uint32(length)), kids...), b)
		}
	}
	r := start(t, small)
	kids := r.parts(three)
	slices.Reverse(kids[:2])
	r.want("pages in another order", r.page(api.TagIndex, number(300), kids...), three[110:220]+three[:110]+three[220:])
}

// P15.2: one page can be there more than once
func TestSharedPage(t *testing.T) {
	r := start(t, small)
	kids := r.parts(three)
	for range 2 {
		if e := r.s.Share(kids[0]); e != api.OK {
			t.Fatalf("Share: error %d", e)
		}
	}
	n := r.page(api.TagIndex, number(330), kids[0], kids[0], kids[0])
	r.want("the same page", n, strings.Repeat("a", 330))
	r.audit("the same page", n, kids[1], kids[2])
	r.drop("the same page", n)
	r.audit("the same page", kids[1:]...)
}

// P15.2: blocks that are no pages, and pages that are not in use
func TestNoPage(t *testing.T) {
	r := start(t, small)
	unused := r.put("three", three)
	r.drop("three", unused)
	for _, n := range []uint32{0, 1, 2, 64, 65, 1 << 16, 1 << 31, math.MaxUint32} {
		r.noBlob(fmt.Sprint("block ", n), n, api.ErrArg, api.ErrArg, 0)
	}
	for n := uint32(4); n < 64; n++ {
		r.noBlob(fmt.Sprint("block ", n), n, api.ErrState, api.ErrState, 0)
	}
}

// P15.2: pages with another tag, whatever else they contain
func TestOtherTags(t *testing.T) {
	for tag := 3; tag < 256; tag++ {
		if tag == api.TagIndex {
			continue
		}
		r := start(t, small)
		kids := r.parts(three)
		why := fmt.Sprint("tag ", tag)
		r.noBlob(why, r.page(byte(tag), number(300), kids...), api.ErrKind, api.ErrKind, 0)
		r.noBlob(why, r.page(byte(tag), number(0)), api.ErrKind, api.ErrKind, 0)
		r.noBlob(why, r.page(byte(tag), "no index"), api.ErrKind, api.ErrKind, 0)
		r.noBlob(why, r.page(byte(tag), ""), api.ErrKind, api.ErrKind, 0)
	}
	r := start(t, small)
	for _, kid := range r.get("three", r.put("three", three)).Kids {
		r.noBlob("a page with bytes", kid, api.ErrKind, api.ErrKind, 0)
	}
}

// P15.2: index pages that are not those of blobs
func TestWrongIndex(t *testing.T) {
	for _, c := range []struct {
		why  string
		data string
		kids int
	}{
		{"no data", "", 0},
		{"no data, a page", "", 1},
		{"three bytes", number(0)[:3], 0},
		{"three bytes, a page", number(110)[:3], 1},
		{"five bytes", number(0) + "\x00", 0},
		{"five bytes, a page", number(110) + "\x00", 1},
		{"eight bytes", number(110) + number(0), 1},
		{"nine bytes", number(0) + number(0) + "\x00", 0},
		{"a page for no bytes", number(0), 1},
		{"no page for a byte", number(1), 0},
		{"two pages for a byte", number(1), 2},
		{"two pages for one", number(110), 2},
		{"a page for a byte more than one", number(111), 1},
		{"three pages for a byte more than one", number(111), 3},
		{"a page for two", number(220), 1},
		{"three pages for two", number(220), 3},
		{"two pages for a byte more than two", number(221), 2},
		{"the other order of the bytes", "\x00\x00\x00\x6e", 1},
		{"a number that is too great", number(65537), 1},
		{"65536 more", number(65536 + 110), 1},
		{"the greatest signed number", number(math.MaxInt32), 1},
		{"2 to the 31", number(1 << 31), 1},
		{"2 to the 31, no page", number(1 << 31), 0},
		{"a negative number", number(math.MaxUint32 - 109), 1},
		{"a negative number, no page", number(math.MaxUint32), 0},
		{"the greatest number, a page", number(math.MaxUint32), 1},
		{"as many pages as fit, and a byte more", number(2861), 26},
	} {
		r := start(t, small)
		var kids []uint32
		for range c.kids {
			kids = append(kids, r.page(api.TagData, strings.Repeat("x", 110)))
		}
		r.noBlob(c.why, r.page(api.TagIndex, c.data, kids...), api.ErrCorrupt, api.ErrCorrupt, 0)
	}
}

// P15.2: more than MaxBytes, with the right pages
func TestMoreThanMaxBytes(t *testing.T) {
	for _, g := range geos[3:] {
		for _, length := range []int{65537, 65536 + room(g), 17 * 4078} {
			r, b := start(t, g), text(length, length)
			kids := r.parts(b)
			r.noBlob(fmt.Sprintf("%v: %d bytes", g, length), r.page(api.TagIndex, number(uint32(length)), kids...), api.ErrCorrupt, api.ErrCorrupt, 0)
		}
	}
}

// wrong is a page that is none of a blob.
type wrong struct {
	why  string
	page uint32
}

// wrongParts puts pages that can be none of a blob in place of one of three.
func (r *run) wrongParts(i int) []wrong {
	right := cut(small, three)[i]
	l := []wrong{
		{"no bytes", r.page(api.TagData, "")},
		{"a byte too few", r.page(api.TagData, right[1:])},
		{"no bytes, a kid", r.page(api.TagData, "", r.page(api.TagData, right))},
		{"four bytes too few, a kid", r.page(api.TagData, right[4:], r.page(api.TagData, right))},
		{"another blob", r.put("another blob", right)},
	}
	for _, tag := range []byte{3, 4, 5, 6, 8, 255} {
		l = append(l, wrong{fmt.Sprint("tag ", tag), r.page(tag, right)})
	}
	if len(right) == 110 {
		return append(l, wrong{"the last page", r.page(api.TagData, cut(small, three)[2])})
	}
	return append(l,
		wrong{"a byte too many", r.page(api.TagData, right+"x")},
		wrong{"a full page", r.page(api.TagData, strings.Repeat("x", 110))},
		wrong{"a kid", r.page(api.TagData, right, r.page(api.TagData, right))},
		wrong{"two kids", r.page(api.TagData, right, r.page(api.TagLeaf, ""), r.page(api.TagData, ""))},
	)
}

// P15.2: pages that are not those of a blob, where others should be
func TestWrongPart(t *testing.T) {
	for i := range 3 {
		r := start(t, api.Geo{Size: 128, Blocks: 128})
		for _, w := range r.wrongParts(i) {
			kids := r.parts(three)
			kids[i] = w.page
			why := fmt.Sprintf("page %d: %s", i, w.why)
			r.noBlob(why, r.page(api.TagIndex, number(300), kids...), api.ErrCorrupt, api.OK, 300, cut(small, three)[:i]...)
		}
	}
}

// P15.2: inverted bits
func TestDamaged(t *testing.T) {
	for i := range 4 {
		r := start(t, small)
		n := r.put("three", three)
		why := fmt.Sprintf("page %d", i)
		if i == 3 {
			r.damage(n)
			r.noBlob("the index", n, api.ErrCorrupt, api.ErrCorrupt, 0)
			continue
		}
		r.damage(r.get(why, n).Kids[i])
		r.noBlob(why, n, api.ErrCorrupt, api.OK, 300, cut(small, three)[:i]...)
	}
}

// P15.2: the errors of space for pages with the bytes
func TestLostPart(t *testing.T) {
	for i := range 3 {
		r := start(t, small)
		n := r.put("three", three)
		kid := r.get("three", n).Kids[i]
		why := fmt.Sprintf("page %d", i)
		r.drop(why, kid)
		r.noBlob(why+" is not in use", n, api.ErrState, api.OK, 300, cut(small, three)[:i]...)
		r.commit(why, 0) // the block is the smallest that can be taken
		if r.s.Share(kid) != api.ErrArg {
			t.Fatalf("%s is no page of counts", why)
		}
		r.noBlob(why+" is a page of counts", n, api.ErrArg, api.OK, 300, cut(small, three)[:i]...)
	}
}

// rule 5: of several pages the first counts
func TestFirstPart(t *testing.T) {
	r := start(t, small)
	kids := r.parts(three)
	short, unused := r.page(api.TagData, "short"), r.page(api.TagData, three[:110])
	first := r.page(api.TagIndex, number(300), short, unused, kids[0])
	second := r.page(api.TagIndex, number(300), unused, short, kids[1])
	r.drop("a page", unused)
	r.noBlob("first a short page", first, api.ErrCorrupt, api.OK, 300)
	r.noBlob("first a page that is not in use", second, api.ErrState, api.OK, 300)
}

// P15.2: the index counts before the other pages
func TestIndexFirst(t *testing.T) {
	r := start(t, small)
	gone := r.page(api.TagData, three[:110])
	kind := r.page(api.TagLeaf, number(110), gone)
	short := r.page(api.TagIndex, "", gone)
	r.drop("a page", gone)
	r.noBlob("another tag", kind, api.ErrKind, api.ErrKind, 0)
	r.noBlob("no number", short, api.ErrCorrupt, api.ErrCorrupt, 0)
}

// P15.2: no blob of blobs
func TestBlobOfBlobs(t *testing.T) {
	r := start(t, small)
	inner := r.put("inner", three)
	r.noBlob("a blob in a blob", r.page(api.TagIndex, number(4), inner), api.ErrCorrupt, api.OK, 4)
	if _, e := blob.Get(r.s, inner); e != api.OK {
		t.Errorf("error %d", e)
	}
}
