package tree_test

import (
	"encoding/binary"
	"hash/crc32"
	"maps"
	"math"
	"math/rand"
	"slices"
	"testing"

	"shadowbook/api"
	"shadowbook/device"
	"shadowbook/space"
	"shadowbook/tree"
)

// geos are those with the fewest and the most bytes in a page, and some between.
var geos = []api.Geo{{Size: 128, Blocks: 1024}, {Size: 192, Blocks: 512}, {Size: 512, Blocks: 512}, {Size: 4096, Blocks: 256}}

var small = api.Geo{Size: 128, Blocks: 512}

// pair is a key and its value.
type pair struct{ key, value uint64 }

// run is a space on its device.
type run struct {
	t *testing.T
	d *device.Device
	s *space.Space
}

func start(t *testing.T, g api.Geo) *run {
	t.Helper()
	d, e := device.New(g)
	if e != api.OK {
		t.Fatalf("%v: error %d", g, e)
	}
	s, e := space.Format(d)
	if e != api.OK {
		t.Fatalf("Format %v: error %d", g, e)
	}
	return &run{t, d, s}
}

// notSpaces are spaces that were not made properly.
func notSpaces(t *testing.T) []*space.Space {
	c := *start(t, small).s
	return []*space.Space{nil, {}, &c}
}

// most is how many items a page has room for.
func (r *run) most(tag byte) int {
	if tag == api.TagLeaf {
		return (r.d.Geo().Size - 18) / 16
	}
	return (r.d.Geo().Size - 18) / 12
}

// put puts a page whose data are numbers of eight bytes.
func (r *run) put(tag byte, kids []uint32, words ...uint64) uint32 {
	r.t.Helper()
	n, e := r.s.Put(api.Page{Tag: tag, Kids: kids, Data: data(words...)})
	if e != api.OK {
		r.t.Fatalf("Put of a page with tag %d: error %d", tag, e)
	}
	return n
}

func data(words ...uint64) string {
	var b []byte
	for _, w := range words {
		b = binary.LittleEndian.AppendUint64(b, w)
	}
	return string(b)
}

// words are the numbers of the data of a page.
func (r *run) words(why string, p api.Page) []uint64 {
	r.t.Helper()
	if len(p.Data)%8 != 0 {
		r.t.Fatalf("%s: %d bytes", why, len(p.Data))
	}
	var l []uint64
	for b := []byte(p.Data); len(b) > 0; b = b[8:] {
		l = append(l, binary.LittleEndian.Uint64(b))
	}
	return l
}

// thing puts a page to be a value.
func (r *run) thing() uint64 {
	return uint64(r.put(api.TagData, nil, 1, 2, 3))
}

// value is a value for a tree of that kind.
func (r *run) value(refs bool, x uint64) uint64 {
	if refs {
		return r.thing()
	}
	return x
}

func (r *run) insert(why string, root uint32, refs bool, key, value uint64) uint32 {
	r.t.Helper()
	n, e := tree.Insert(r.s, root, refs, key, value)
	if e != api.OK || n == 0 {
		r.t.Fatalf("%s: Insert %d: %d, error %d", why, key, n, e)
	}
	return n
}

func (r *run) delete(why string, root uint32, key uint64) uint32 {
	r.t.Helper()
	n, e := tree.Delete(r.s, root, key)
	if e != api.OK {
		r.t.Fatalf("%s: Delete %d: %d, error %d", why, key, n, e)
	}
	return n
}

func (r *run) drop(why string, n uint32) {
	r.t.Helper()
	if n == 0 {
		return
	}
	if e := r.s.Drop(n); e != api.OK {
		r.t.Fatalf("%s: Drop %d: error %d", why, n, e)
	}
}

func (r *run) share(why string, n uint32) {
	r.t.Helper()
	if n == 0 {
		return
	}
	if e := r.s.Share(n); e != api.OK {
		r.t.Fatalf("%s: Share %d: error %d", why, n, e)
	}
}

func (r *run) audit(why string, roots ...uint32) {
	r.t.Helper()
	if e := r.s.Audit(roots); e != api.OK {
		r.t.Fatalf("%s: Audit %v: error %d", why, roots, e)
	}
}

// shape is what all leaves of a tree have in common.
type shape struct {
	tag   byte
	depth int
	full  bool // each page but the root must be at least half full
}

// pairs reads a tree without the package, and fails unless it is one as the document says.
func (r *run) pairs(why string, root uint32, sh *shape) []pair {
	r.t.Helper()
	if root == 0 {
		return nil
	}
	l := r.below(why, root, 1, sh)
	for i := 1; i < len(l); i++ {
		if l[i-1].key >= l[i].key {
			r.t.Fatalf("%s: key %d behind %d", why, l[i].key, l[i-1].key)
		}
	}
	return l
}

func (r *run) below(why string, n uint32, depth int, sh *shape) []pair {
	r.t.Helper()
	p, e := r.s.Get(n)
	if e != api.OK {
		r.t.Fatalf("%s: page %d: error %d", why, n, e)
	}
	l := r.words(why, p)
	if p.Tag == api.TagInner {
		return r.inner(why, p, l, depth, sh)
	}
	if sh.tag == 0 {
		sh.tag, sh.depth = p.Tag, depth
	}
	if p.Tag != sh.tag || depth != sh.depth || depth > 16 {
		r.t.Fatalf("%s: a leaf with tag %d in depth %d, of another one %d and %d", why, p.Tag, depth, sh.tag, sh.depth)
	}
	return r.leaf(why, p, l, depth, sh)
}

func (r *run) inner(why string, p api.Page, keys []uint64, depth int, sh *shape) []pair {
	r.t.Helper()
	if len(p.Kids) < 2 || len(keys) != len(p.Kids) || sh.full && depth > 1 && len(keys) < r.most(p.Tag)/2 {
		r.t.Fatalf("%s: an inner page with %d kids, %d keys", why, len(p.Kids), len(keys))
	}
	var all []pair
	for i, kid := range p.Kids {
		l := r.below(why, kid, depth+1, sh)
		if l[0].key != keys[i] {
			r.t.Fatalf("%s: smallest key %d, in the inner page %d", why, l[0].key, keys[i])
		}
		all = append(all, l...)
	}
	return all
}

func (r *run) leaf(why string, p api.Page, l []uint64, depth int, sh *shape) []pair {
	r.t.Helper()
	var all []pair
	switch p.Tag {
	case api.TagLeaf:
		if len(p.Kids) > 0 || len(l)%2 != 0 {
			r.t.Fatalf("%s: a leaf with %d kids, %d numbers", why, len(p.Kids), len(l))
		}
		for i := 0; i < len(l); i += 2 {
			all = append(all, pair{l[i], l[i+1]})
		}
	case api.TagRefs:
		if len(p.Kids) != len(l) {
			r.t.Fatalf("%s: a leaf with %d kids, %d keys", why, len(p.Kids), len(l))
		}
		for i, key := range l {
			all = append(all, pair{key, uint64(p.Kids[i])})
		}
	default:
		r.t.Fatalf("%s: tag %d", why, p.Tag)
	}
	if len(all) == 0 || sh.full && depth > 1 && len(all) < r.most(p.Tag)/2 {
		r.t.Fatalf("%s: a leaf with %d keys", why, len(all))
	}
	return all
}

// sorted are the pairs of a map.
func sorted(m map[uint64]uint64) []pair {
	var l []pair
	for _, key := range slices.Sorted(maps.Keys(m)) {
		l = append(l, pair{key, m[key]})
	}
	return l
}

// collect are the pairs that Each yields.
func (r *run) collect(root uint32, from uint64) []pair {
	var l []pair
	for key, value := range tree.Each(r.s, root, from) {
		l = append(l, pair{key, value})
	}
	return l
}

// want fails unless a tree that this package made contains what the map does.
func (r *run) want(why string, root uint32, refs bool, m map[uint64]uint64) {
	r.t.Helper()
	r.wantAny(why, root, refs, m, true)
}

// wantAny is want for trees that can also be made otherwise.
func (r *run) wantAny(why string, root uint32, refs bool, m map[uint64]uint64, full bool) {
	r.t.Helper()
	sh, l := &shape{full: full}, sorted(m)
	if got := r.pairs(why, root, sh); !slices.Equal(got, l) {
		r.t.Fatalf("%s: %v, want %v", why, got, l)
	}
	if (root == 0) != (len(m) == 0) || root != 0 && (sh.tag == api.TagRefs) != refs {
		r.t.Fatalf("%s: root %d of %d keys, tag %d", why, root, len(m), sh.tag)
	}
	ops := r.d.Ops()
	if got := r.collect(root, 0); !slices.Equal(got, l) {
		r.t.Fatalf("%s: Each: %v, want %v", why, got, l)
	}
	if n, e := tree.Len(r.s, root); n != len(l) || e != api.OK {
		r.t.Fatalf("%s: Len: %d, error %d, want %d", why, n, e, len(l))
	}
	if e := tree.Check(r.s, root); e != api.OK {
		r.t.Fatalf("%s: Check: error %d", why, e)
	}
	if r.d.Ops() != ops {
		r.t.Fatalf("%s: something was written", why)
	}
}

// lookup holds Lookup of a key against a map.
func (r *run) lookup(why string, root uint32, m map[uint64]uint64, key uint64) {
	r.t.Helper()
	want, there := m[key]
	wantE := api.OK
	if !there {
		wantE = api.ErrNone
	}
	if v, e := tree.Lookup(r.s, root, key); v != want || e != wantE {
		r.t.Fatalf("%s: Lookup %d: %d, error %d, want %d, error %d", why, key, v, e, want, wantE)
	}
}

// lookups holds Lookup of all keys, and of those beside them, against a map.
func (r *run) lookups(why string, root uint32, m map[uint64]uint64) {
	r.t.Helper()
	for key := range m {
		for _, k := range []uint64{key - 1, key, key + 1} {
			r.lookup(why, root, m, k)
		}
	}
	for _, key := range []uint64{0, 1, 1 << 32, 1 << 63, math.MaxUint64} {
		r.lookup(why, root, m, key)
	}
}

// state is all that must stay the same if nothing changes.
func (r *run) state() []int {
	l := []int{r.d.Ops(), r.s.Free()}
	for n := range r.d.Geo().Blocks {
		l = append(l, r.s.Count(uint32(n)))
	}
	return l
}

// fails calls something that must return an error, nothing else, and change nothing.
func (r *run) fails(why string, want api.Errno, f func() (uint32, api.Errno)) {
	r.t.Helper()
	before := r.state()
	if n, e := f(); n != 0 || e != want {
		r.t.Errorf("%s: %d, error %d, want %d", why, n, e, want)
	}
	if !slices.Equal(r.state(), before) {
		r.t.Errorf("%s: something has changed", why)
	}
}

// damage inverts a bit of a page.
func (r *run) damage(n uint32) {
	r.t.Helper()
	if r.d.Flush() != api.OK || r.d.Rot(int(n), 40, 1) != api.OK {
		r.t.Fatalf("no page %d", n)
	}
}

// rewrite writes another page to a block, which no space does.
func (r *run) rewrite(n uint32, p api.Page) {
	r.t.Helper()
	b := []byte{p.Tag, 0, 0, 0}
	b = binary.LittleEndian.AppendUint64(b, r.s.Gen()+1)
	b = binary.LittleEndian.AppendUint16(b, uint16(len(p.Kids)))
	for _, kid := range p.Kids {
		b = binary.LittleEndian.AppendUint32(b, kid)
	}
	b = append(b, p.Data...)
	binary.LittleEndian.PutUint16(b[2:], uint16(len(b)-12))
	b = append(b, make([]byte, r.d.Geo().Size-4-len(b))...)
	b = binary.LittleEndian.AppendUint32(b, crc32.Checksum(b, crc32.MakeTable(crc32.Castagnoli)))
	if e := r.d.Write(int(n), string(b)); e != api.OK {
		r.t.Fatalf("page %d: error %d", n, e)
	}
}

// kinds are the two kinds of trees.
var kinds = []bool{false, true}

// keysOf are keys of which some are close to each other, and some at the ends.
func keysOf(x *rand.Rand, n int) []uint64 {
	l := []uint64{0, 1, math.MaxUint64, math.MaxUint64 - 1, 1 << 63}
	for len(l) < n {
		l = append(l, x.Uint64()>>x.Intn(60))
	}
	return l[:n]
}
