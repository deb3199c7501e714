package tree_test

import (
	"fmt"
	"math/rand"
	"slices"
	"testing"

	"shadowbook/api"
	"shadowbook/tree"
)

// page is a page that is put by hand.
type page struct {
	why  string
	tag  byte
	kids int // pages that would do as values, or as kids
	data string
}

// wrongPages are no pages of a tree, wherever they are. Their first key is 10, if they have one.
var wrongPages = []page{
	{"a leaf without keys", api.TagLeaf, 0, ""},
	{"a leaf with half a pair", api.TagLeaf, 0, data(10)},
	{"a leaf with a pair and a half", api.TagLeaf, 0, data(10, 1, 11)},
	{"a leaf with a byte too few", api.TagLeaf, 0, data(10, 1)[:15]},
	{"a leaf with a byte too many", api.TagLeaf, 0, data(10, 1) + "\x00"},
	{"a leaf with a kid", api.TagLeaf, 1, data(10, 1)},
	{"a leaf with as many kids as keys", api.TagLeaf, 2, data(10, 1, 11, 1)},
	{"a leaf with as many kids as numbers", api.TagLeaf, 2, data(10, 11)},
	{"a leaf with equal keys", api.TagLeaf, 0, data(10, 1, 10, 2)},
	{"a leaf with falling keys", api.TagLeaf, 0, data(10, 1, 9, 2)},
	{"a leaf with falling keys at the end", api.TagLeaf, 0, data(10, 1, 12, 2, 11, 3)},
	{"a leaf of pages without any", api.TagRefs, 0, ""},
	{"a leaf of pages with a key too many", api.TagRefs, 1, data(10, 11)},
	{"a leaf of pages with a kid too many", api.TagRefs, 2, data(10)},
	{"a leaf of pages with no keys", api.TagRefs, 1, ""},
	{"a leaf of pages with no kids", api.TagRefs, 0, data(10)},
	{"a leaf of pages with a byte too few", api.TagRefs, 1, data(10)[:7]},
	{"a leaf of pages with a byte too many", api.TagRefs, 1, data(10) + "\x00"},
	{"a leaf of pages with equal keys", api.TagRefs, 2, data(10, 10)},
	{"a leaf of pages with falling keys", api.TagRefs, 2, data(10, 9)},
	{"an inner page without kids", api.TagInner, 0, ""},
	{"an inner page with one kid", api.TagInner, 1, data(10)},
	{"an inner page with a key too many", api.TagInner, 2, data(10, 20, 30)},
	{"an inner page with a kid too many", api.TagInner, 3, data(10, 20)},
	{"an inner page without keys", api.TagInner, 2, ""},
	{"an inner page with a byte too few", api.TagInner, 2, data(10, 20)[:15]},
	{"an inner page with a byte too many", api.TagInner, 2, data(10, 20) + "\x00"},
	{"an inner page with values", api.TagInner, 2, data(10, 1, 20, 2)},
	{"an inner page with equal keys", api.TagInner, 2, data(10, 10)},
	{"an inner page with falling keys", api.TagInner, 2, data(20, 10)},
	{"a page of an index", api.TagIndex, 1, data(10)},
	{"a page of data", api.TagData, 0, data(10, 1)},
	{"a page with tag 8", 8, 0, data(10, 1)},
	{"a page with tag 255", 255, 2, data(10, 20)},
}

// by puts such a page; each kid is a leaf with one key, which would be right there.
func (r *run) by(p page) uint32 {
	r.t.Helper()
	var kids []uint32
	for i := range p.kids {
		kids = append(kids, r.put(api.TagLeaf, nil, uint64(10*i+10), 1))
	}
	n, e := r.s.Put(api.Page{Tag: p.tag, Kids: kids, Data: p.data})
	if e != api.OK {
		r.t.Fatalf("%s: error %d", p.why, e)
	}
	return n
}

// noTree fails unless all that is done with the tree at that key finds it corrupt.
func (r *run) noTree(why string, root uint32, key uint64) {
	r.t.Helper()
	if v, e := tree.Lookup(r.s, root, key); v != 0 || e != api.ErrCorrupt {
		r.t.Errorf("%s: Lookup: %d, error %d", why, v, e)
	}
	for _, refs := range kinds {
		r.fails(why+": Insert", api.ErrCorrupt, func() (uint32, api.Errno) { return tree.Insert(r.s, root, refs, key, 0) })
	}
	r.fails(why+": Delete", api.ErrCorrupt, func() (uint32, api.Errno) { return tree.Delete(r.s, root, key) })
	r.notWhole(why, root)
}

// notWhole fails unless a tree is found corrupt when all of it is looked at.
func (r *run) notWhole(why string, root uint32) {
	r.t.Helper()
	if n, e := tree.Len(r.s, root); n != 0 || e != api.ErrCorrupt {
		r.t.Errorf("%s: Len: %d, error %d", why, n, e)
	}
	if e := tree.Check(r.s, root); e != api.ErrCorrupt {
		r.t.Errorf("%s: Check: error %d", why, e)
	}
}

// P14.1, P14.2: roots that are no pages of a tree
func TestWrongRoot(t *testing.T) {
	for _, p := range wrongPages {
		r := start(t, small)
		root := r.by(p)
		for _, key := range []uint64{0, 10, 11, 25} {
			r.noTree(p.why, root, key)
		}
		if l := r.collect(root, 0); len(l) != 0 {
			t.Errorf("%s: Each: %v", p.why, l)
		}
	}
}

// P14.1, P14.2: kids that are no pages of a tree
func TestWrongKid(t *testing.T) {
	for _, p := range wrongPages {
		r := start(t, small)
		before, behind := r.put(api.TagLeaf, nil, 1, 1, 2, 2), r.put(api.TagLeaf, nil, 100, 1, 102, 2)
		root := r.put(api.TagInner, []uint32{before, r.by(p), behind}, 1, 10, 100)
		for _, key := range []uint64{10, 11, 25, 99} {
			r.noTree(p.why, root, key)
		}
		for _, key := range []uint64{0, 1, 2, 3, 9, 100, 101, 102, 103} {
			r.lookup(p.why, root, map[uint64]uint64{1: 1, 2: 2, 100: 1, 102: 2}, key)
		}
		if l := r.collect(root, 0); !slices.Equal(l, []pair{{1, 1}, {2, 2}}) {
			t.Errorf("%s: Each: %v", p.why, l)
		}
		if l := r.collect(root, 100); !slices.Equal(l, []pair{{100, 1}, {102, 2}}) {
			t.Errorf("%s: Each from 100: %v", p.why, l)
		}
		r.share(p.why, root)
		other := r.insert(p.why, root, false, 101, 5)
		r.lookup(p.why, other, map[uint64]uint64{101: 5}, 101)
	}
}

// P14.1, P14.2: pages that would be right elsewhere
func TestWrongPlace(t *testing.T) {
	leaf := func(r *run, keys ...uint64) uint32 {
		var l []uint64
		for _, key := range keys {
			l = append(l, key, 1)
		}
		return r.put(api.TagLeaf, nil, l...)
	}
	for why, kid := range map[string]func(*run) uint32{
		"a smaller key":          func(r *run) uint32 { return leaf(r, 9, 10) },
		"a greater smallest key": func(r *run) uint32 { return leaf(r, 11) },
		"the first key behind":   func(r *run) uint32 { return leaf(r, 10, 20) },
		"a key behind":           func(r *run) uint32 { return leaf(r, 10, 21) },
		"a key behind, in an inner page": func(r *run) uint32 {
			return r.put(api.TagInner, []uint32{leaf(r, 10), leaf(r, 20)}, 10, 20)
		},
		"a smaller key, in an inner page": func(r *run) uint32 {
			return r.put(api.TagInner, []uint32{leaf(r, 9), leaf(r, 15)}, 9, 15)
		},
		"a key behind, two below": func(r *run) uint32 {
			return r.put(api.TagInner, []uint32{leaf(r, 10, 12, 15, 20), leaf(r, 15)}, 10, 15)
		},
		"an inner page whose key is not that of its kid": func(r *run) uint32 {
			return r.put(api.TagInner, []uint32{leaf(r, 9), leaf(r, 15)}, 10, 15)
		},
	} {
		r := start(t, small)
		root := r.put(api.TagInner, []uint32{leaf(r, 1), kid(r), leaf(r, 20)}, 1, 10, 20)
		r.noTree(why, root, 10)
		if l := r.collect(root, 0); !slices.Equal(l, []pair{{1, 1}}) {
			t.Errorf("%s: Each: %v", why, l)
		}
		r.lookup(why, root, map[uint64]uint64{20: 1}, 20)
	}
}

// P14.2: leaves that are not alike
func TestMixed(t *testing.T) {
	for why, kid := range map[string]func(*run) uint32{
		"other tag": func(r *run) uint32 { return r.put(api.TagRefs, []uint32{uint32(r.thing())}, 10) },
		"deeper": func(r *run) uint32 {
			return r.put(api.TagInner, []uint32{r.put(api.TagLeaf, nil, 10, 1), r.put(api.TagLeaf, nil, 11, 1)}, 10, 11)
		},
		"deeper, other tag": func(r *run) uint32 {
			a, b := uint32(r.thing()), uint32(r.thing())
			return r.put(api.TagInner, []uint32{r.put(api.TagRefs, []uint32{a}, 10), r.put(api.TagRefs, []uint32{b}, 11)}, 10, 11)
		},
	} {
		for _, first := range kinds {
			r := start(t, small)
			a, keys := r.put(api.TagLeaf, nil, 1, 5), []uint64{1, 10}
			kids := []uint32{a, kid(r)}
			if first {
				kids, keys = []uint32{kid(r), r.put(api.TagLeaf, nil, 12, 5)}, []uint64{10, 12}
			}
			root := r.put(api.TagInner, kids, keys...)
			r.notWhole(why, root)
			l := r.collect(root, 0)
			for _, p := range l {
				if first && p.key > 11 || !first && p.key > 1 {
					t.Errorf("%s: Each: %v", why, l)
				}
			}
			if len(l) == 0 {
				t.Errorf("%s: Each yields nothing", why)
			}
		}
	}
}

// P14.1: a page with which a small one would be joined
func TestWrongNeighbour(t *testing.T) {
	r := start(t, small)
	a, b := r.put(api.TagLeaf, nil, 1, 1, 2, 2, 3, 3), r.put(api.TagLeaf, nil, 11, 1, 12, 2, 13, 3)
	refs := func(key uint64) uint32 {
		return r.put(api.TagRefs, []uint32{uint32(r.thing())}, key)
	}
	right := r.put(api.TagInner, []uint32{a, refs(5)}, 1, 5)
	r.fails("the one behind", api.ErrCorrupt, func() (uint32, api.Errno) { return tree.Delete(r.s, right, 2) })
	left := r.put(api.TagInner, []uint32{refs(5), b}, 5, 11)
	r.fails("the one before", api.ErrCorrupt, func() (uint32, api.Errno) { return tree.Delete(r.s, left, 12) })
	other := r.put(api.TagLeaf, nil, 6, 6)
	shifted := r.put(api.TagInner, []uint32{other, r.put(api.TagLeaf, nil, 11, 1, 12, 2, 13, 3)}, 5, 11)
	r.fails("another smallest key", api.ErrCorrupt, func() (uint32, api.Errno) { return tree.Delete(r.s, shifted, 12) })
}

// deep is a tree whose leftmost leaf has that depth, and those keys; the other pages are not what they should be, but are never looked at from there. The inner pages have so many kids.
func (r *run) deep(depth, kids int, keys ...uint64) uint32 {
	r.t.Helper()
	var l []uint64
	for _, key := range keys {
		l = append(l, key, key+1)
	}
	root := r.put(api.TagLeaf, nil, l...)
	for level := range depth - 1 {
		pages, first := []uint32{root}, []uint64{0}
		for i := 1; i < kids; i++ {
			key := uint64(1000*level + 100 + i)
			pages, first = append(pages, r.put(api.TagLeaf, nil, key, 1)), append(first, key)
		}
		root = r.put(api.TagInner, pages, first...)
	}
	return root
}

// P14.1: a leaf of depth 16 is the deepest there can be
func TestDeep(t *testing.T) {
	for depth := 1; depth <= 20; depth++ {
		why := fmt.Sprint("depth ", depth)
		r := start(t, small)
		root := r.deep(depth, 2, 0, 3)
		if depth > 16 {
			r.noTree(why, root, 0)
			if l := r.collect(root, 0); len(l) != 0 {
				t.Errorf("%s: Each: %v", why, l)
			}
			continue
		}
		m := map[uint64]uint64{0: 1, 3: 4}
		for key := range uint64(5) {
			r.lookup(why, root, m, key)
		}
		if l := r.collect(root, 0); len(l) < 2 || l[0] != (pair{0, 1}) || l[1] != (pair{3, 4}) {
			t.Errorf("%s: Each: %v", why, l)
		}
		if depth > 2 {
			r.notWhole(why, root)
		}
		root = r.insert(why, root, false, 1, 9)
		m[1] = 9
		for key := range uint64(5) {
			r.lookup(why, root, m, key)
		}
	}
}

// P14.1: a tree that would be too deep
func TestTooDeep(t *testing.T) {
	for depth := 1; depth <= 16; depth++ {
		for _, kids := range []int{8, 9} {
			why := fmt.Sprint("depth ", depth, " kids ", kids)
			r := start(t, small)
			root := r.deep(depth, kids, 0, 1, 2, 3, 4, 6)
			root = r.insert(why+": replaced", root, false, 4, 50)
			if depth == 16 && kids == 9 {
				r.fails(why, api.ErrLimit, func() (uint32, api.Errno) { return tree.Insert(r.s, root, false, 5, 9) })
				r.lookup(why, root, map[uint64]uint64{4: 50}, 4)
				continue
			}
			root = r.insert(why, root, false, 5, 9)
			if v, e := tree.Lookup(r.s, root, 5); v != 9 || e != api.OK {
				t.Errorf("%s: Lookup: %d, error %d", why, v, e)
			}
		}
	}
}

// P14.1, P14.2: pages that contain themselves
func TestCircle(t *testing.T) {
	for _, at := range []int{0, 1, 2} {
		r := start(t, small)
		var kids []uint32
		for i := range uint64(3) {
			kids = append(kids, r.put(api.TagLeaf, nil, 10*i, 1))
		}
		root := r.put(api.TagInner, kids, 0, 10, 20)
		kids[at] = root
		r.rewrite(root, api.Page{Tag: api.TagInner, Kids: kids, Data: data(0, 10, 20)})
		r.noTree("circle", root, uint64(10*at))
	}
	r := start(t, api.Geo{Size: 4096, Blocks: 16})
	root, keys, kids := r.thing(), []uint64{}, []uint32{}
	for i := range uint64(300) {
		keys, kids = append(keys, i), append(kids, uint32(root))
	}
	r.rewrite(uint32(root), api.Page{Tag: api.TagInner, Kids: kids, Data: data(keys...)})
	for _, key := range []uint64{0, 1, 150, 299, 300} {
		r.noTree("nothing but itself", uint32(root), key)
	}
}

// sparse puts a tree by hand, with as few keys and kids as there can be in each page.
func (r *run) sparse(refs bool, depth int, first, step uint64, m map[uint64]uint64) uint32 {
	r.t.Helper()
	if depth == 1 {
		m[first] = r.value(refs, first)
		if refs {
			return r.put(api.TagRefs, []uint32{uint32(m[first])}, first)
		}
		return r.put(api.TagLeaf, nil, first, first)
	}
	half := step << (depth - 2)
	a := r.sparse(refs, depth-1, first, step, m)
	return r.put(api.TagInner, []uint32{a, r.sparse(refs, depth-1, first+half, step, m)}, first, first+half)
}

// P14.1, P14.2: trees whose pages are as empty as they can be
func TestSparse(t *testing.T) {
	for _, refs := range kinds {
		for depth := 1; depth <= 6; depth++ {
			for seed := range int64(3) {
				why := fmt.Sprint(refs, " depth ", depth, " seed ", seed)
				r := start(t, small)
				free := r.s.Free()
				m := map[uint64]uint64{}
				root := r.sparse(refs, depth, 0, 1, m)
				r.wantAny(why, root, refs, m, false)
				r.drop(why, root)
				clear(m)
				root = r.sparse(refs, depth, 10, 3, m)
				r.wantAny(why, root, refs, m, false)
				r.lookups(why, root, m)
				x := rand.New(rand.NewSource(seed))
				for n := range 120 {
					key := uint64(x.Intn(3<<depth)) + 9
					if _, there := m[key]; there && x.Intn(5) > 0 {
						root = r.delete(why, root, key)
						delete(m, key)
					} else if n < 60 && x.Intn(3) == 0 {
						m[key] = r.value(refs, key)
						root = r.insert(why, root, refs, key, m[key])
					}
					r.wantAny(why, root, refs, m, false)
					r.audit(why, root)
				}
				r.lookups(why, root, m)
				for _, p := range sorted(m) {
					root = r.delete(why, root, p.key)
					delete(m, p.key)
					r.wantAny(why, root, refs, m, false)
				}
				if root != 0 || r.s.Free() != free {
					t.Fatalf("%s: root %d, %d free, want %d", why, root, r.s.Free(), free)
				}
			}
		}
	}
}

// P14.1: a page is read and written again only if too few keys would be left in the one beside it
func TestJoin(t *testing.T) {
	for _, tag := range []byte{api.TagLeaf, api.TagRefs} {
		half := (&run{t: t, d: start(t, small).d}).most(tag) / 2
		for _, first := range kinds {
			for left := 1; left <= half+1; left++ {
				r := start(t, small)
				keys, others := tens(left+1), []uint64{1, 2, 3, 4, 5}
				if first {
					others = []uint64{1001, 1002, 1003, 1004, 1005}
				}
				values, _ := r.values(tag == api.TagRefs, keys)
				more, _ := r.values(tag == api.TagRefs, others)
				a, b := r.leafOf(tag, keys, values), r.leafOf(tag, others, more)
				why := fmt.Sprint("tag ", tag, " left ", left, " first ", first)
				kids, keysOf := []uint32{b, a}, []uint64{1, 10}
				if first {
					kids, keysOf = []uint32{a, b}, []uint64{10, 1001}
				}
				root := r.put(api.TagInner, kids, keysOf...)
				r.damage(b)
				ops := r.d.Ops()
				if left < half {
					r.fails(why, api.ErrCorrupt, func() (uint32, api.Errno) { return tree.Delete(r.s, root, keys[1]) })
					continue
				}
				r.delete(why, root, keys[1])
				if n := r.d.Ops() - ops; n != 2 {
					t.Errorf("%s: %d pages were written", why, n)
				}
			}
		}
	}
}

// leafOf puts a leaf by hand.
func (r *run) leafOf(tag byte, keys, values []uint64) uint32 {
	r.t.Helper()
	var kids []uint32
	var l []uint64
	for i, key := range keys {
		if tag == api.TagRefs {
			kids, l = append(kids, uint32(values[i])), append(l, key)
		} else {
			l = append(l, key, values[i])
		}
	}
	return r.put(tag, kids, l...)
}

// P14.1: of a root with two kids of which one becomes empty, the other one is left as it is
func TestLastKid(t *testing.T) {
	for _, refs := range kinds {
		for _, key := range []uint64{10, 13} {
			r, m := start(t, small), map[uint64]uint64{}
			root := r.sparse(refs, 2, 10, 3, m)
			p, _ := r.s.Get(root)
			left := p.Kids[0]
			if key == 10 {
				left = p.Kids[1]
			}
			ops := r.d.Ops()
			if got := r.delete("one", root, key); got != left || r.d.Ops() != ops {
				t.Errorf("without %d: root %d, want %d", key, got, left)
			}
			delete(m, key)
			r.want("one", left, refs, m)
			r.audit("one", left)
		}
	}
}

// P14.2: a tree as deep as there is space for
func TestDeepest(t *testing.T) {
	r := start(t, api.Geo{Size: 192, Blocks: 2200})
	m := map[uint64]uint64{}
	root := r.sparse(false, 11, 0, 2, m)
	r.wantAny("deep", root, false, m, false)
	root = r.insert("deep", root, false, 1, 1)
	m[1] = 1
	for key := uint64(100); key < 200; key += 2 {
		root = r.delete("deep", root, key)
		delete(m, key)
	}
	r.wantAny("deep", root, false, m, false)
	r.audit("deep", root)
}

// fill gives a page as many references as there can be.
func (r *run) fill(n uint32) {
	r.t.Helper()
	for r.s.Count(n) < api.MaxCount {
		r.share("fill", n)
	}
}

// P14.1: pages with as many references as there can be
func TestMaxCount(t *testing.T) {
	r := start(t, small)
	a := uint32(r.thing())
	r.share("a", a)
	root := r.insert("a", 0, true, 1, uint64(a))
	root = r.insert("a", root, true, 2, uint64(a))
	r.fill(a)
	root = r.insert("another one", root, true, 3, r.thing())
	if r.s.Count(a) != api.MaxCount {
		t.Errorf("%d references", r.s.Count(a))
	}
	root = r.insert("one of them", root, true, 4, uint64(a))
	root = r.insert("another one", root, true, 5, r.thing())
	if r.s.Count(a) != api.MaxCount {
		t.Errorf("%d references", r.s.Count(a))
	}
	root = r.delete("another one", root, 5)
	r.share("tree", root)
	if n, e := tree.Insert(r.s, root, true, 5, r.thing()); n != 0 || e != api.ErrLimit { // both trees would refer to it
		t.Errorf("Insert: %d, error %d", n, e)
	}
}

// P14.1: a root with as many references as there can be
func TestMaxRoot(t *testing.T) {
	r, root, m := inserted(t, small, false, tens(30))
	r.fill(root)
	other := r.insert("root", root, false, 5, 5)
	if r.s.Count(root) != api.MaxCount-1 || r.s.Count(other) != 1 {
		t.Errorf("%d references", r.s.Count(root))
	}
	r.want("root", root, false, m)
}

// P14.1: after ErrArg nothing has changed, so what is found too late is another error
func TestLostKid(t *testing.T) {
	r := start(t, small)
	a, b := r.put(api.TagLeaf, nil, 1, 1), r.put(api.TagLeaf, nil, 11, 1)
	root := r.put(api.TagInner, []uint32{a, b}, 1, 11)
	if r.s.Commit(root) != api.OK || r.s.Drop(b) != api.OK || r.s.Commit(root) != api.OK {
		t.Fatal("no commit")
	}
	if e := r.s.Commit(root); e != api.OK { // the counts take a block that should be in use
		t.Fatalf("Commit: error %d", e)
	}
	if _, e := r.s.Get(b); e != api.ErrArg {
		t.Fatalf("block %d: error %d", b, e)
	}
	if n, e := tree.Insert(r.s, root, false, 2, 2); n != 0 || e != api.ErrCorrupt {
		t.Errorf("Insert: %d, error %d", n, e)
	}
	if n, e := tree.Delete(r.s, root, 1); n != 0 || e != api.ErrCorrupt {
		t.Errorf("Delete: %d, error %d", n, e)
	}
}

// P14.1: the errors of space for a page that is not looked at
func TestUnusedKid(t *testing.T) {
	r := start(t, small)
	a, b := r.put(api.TagLeaf, nil, 1, 1), r.put(api.TagLeaf, nil, 11, 1)
	root := r.put(api.TagInner, []uint32{a, b}, 1, 11)
	if e := r.s.Commit(root); e != api.OK {
		t.Fatalf("Commit: error %d", e)
	}
	r.drop("b", b)
	r.share("what Drop leaves as it is", root)
	if n, e := tree.Len(r.s, root); n != 0 || e != api.ErrState {
		t.Errorf("Len: %d, error %d", n, e)
	}
	if l := r.collect(root, 0); !slices.Equal(l, []pair{{1, 1}}) {
		t.Errorf("Each: %v", l)
	}
	if n, e := tree.Delete(r.s, root, 1); n != 0 || e != api.ErrState {
		t.Errorf("Delete: %d, error %d", n, e)
	}
	if n, e := tree.Insert(r.s, root, false, 2, 2); n != 0 || e != api.ErrState {
		t.Errorf("Insert: %d, error %d", n, e)
	}
}
