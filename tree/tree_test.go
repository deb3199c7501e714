package tree_test

import (
	"fmt"
	"maps"
	"math"
	"math/rand"
	"slices"
	"testing"

	"shadowbook/api"
	"shadowbook/space"
	"shadowbook/tree"
)

// The chapter's example.
func TestExample(t *testing.T) {
	r := start(t, small)
	root, e := tree.Insert(r.s, 0, false, 5, 7)
	if e != api.OK || root == 0 {
		t.Fatalf("Insert: %d, error %d", root, e)
	}
	if v, e := tree.Lookup(r.s, root, 5); v != 7 || e != api.OK {
		t.Errorf("Lookup: %d, error %d", v, e)
	}
	if root, e = tree.Delete(r.s, root, 5); root != 0 || e != api.OK {
		t.Errorf("Delete: %d, error %d", root, e)
	}
	r.audit("nothing is left")
}

// P14.1: what the pages contain, byte by byte
func TestPages(t *testing.T) {
	r := start(t, small)
	root := r.insert("numbers", 0, false, 0x0102030405060708, 9)
	root = r.insert("numbers", root, false, 2, math.MaxUint64)
	want := "\x02\x00\x00\x00\x00\x00\x00\x00\xff\xff\xff\xff\xff\xff\xff\xff\x08\x07\x06\x05\x04\x03\x02\x01\x09\x00\x00\x00\x00\x00\x00\x00"
	if p, e := r.s.Get(root); e != api.OK || p.Tag != api.TagLeaf || len(p.Kids) != 0 || p.Data != want {
		t.Errorf("leaf: %v, error %d", p, e)
	}
	a, b := r.thing(), r.thing()
	root = r.insert("pages", 0, true, 3, a)
	root = r.insert("pages", root, true, 1, b)
	p, e := r.s.Get(root)
	if e != api.OK || p.Tag != api.TagRefs || !slices.Equal(p.Kids, []uint32{uint32(b), uint32(a)}) || p.Data != data(1, 3) {
		t.Errorf("leaf of pages: %v, error %d", p, e)
	}
	root = 0
	for key := range uint64(7) {
		root = r.insert("two leaves", root, false, 10+key, key)
	}
	p, e = r.s.Get(root)
	if e != api.OK || p.Tag != api.TagInner || len(p.Kids) != 2 || len(p.Data) != 16 || p.Data[:8] != data(10) {
		t.Errorf("inner page: %v, error %d", p, e)
	}
}

// orders are in which order so many keys are gone through.
func orders(n int) map[string][]uint64 {
	up, inward := []uint64{}, []uint64{}
	for i := range n {
		up = append(up, uint64(i))
		if i%2 == 0 {
			inward = append(inward, uint64(i/2))
		} else {
			inward = append(inward, uint64(n-1-i/2))
		}
	}
	down, outward := slices.Clone(up), slices.Clone(inward)
	slices.Reverse(down)
	slices.Reverse(outward)
	mixed := slices.Clone(up)
	rand.New(rand.NewSource(3)).Shuffle(n, func(i, j int) { mixed[i], mixed[j] = mixed[j], mixed[i] })
	return map[string][]uint64{"up": up, "down": down, "inward": inward, "outward": outward, "mixed": mixed}
}

// P14.1, P14.3: trees that grow and shrink in several orders
func TestOrders(t *testing.T) {
	for _, refs := range kinds {
		for order, keys := range orders(120) {
			for other, again := range orders(120) {
				r := start(t, small)
				free := r.s.Free()
				why := fmt.Sprint(refs, " ", order, " ", other)
				root, m := uint32(0), map[uint64]uint64{}
				for i, key := range keys {
					m[3*key] = r.value(refs, uint64(i))
					root = r.insert(why, root, refs, 3*key, m[3*key])
					if i%11 == 0 || i == len(keys)-1 {
						r.want(why, root, refs, m)
						r.audit(why, root)
					}
				}
				r.lookups(why, root, m)
				for i, key := range again {
					root = r.delete(why, root, 3*key)
					delete(m, 3*key)
					if i%11 == 0 || len(m) < 16 {
						r.want(why, root, refs, m)
						r.audit(why, root)
					}
				}
				if root != 0 || r.s.Free() != free {
					t.Fatalf("%s: root %d, %d free, want %d", why, root, r.s.Free(), free)
				}
			}
		}
	}
}

// P14.1, P14.3: trees are maps
func TestMap(t *testing.T) {
	for i, g := range geos {
		for _, refs := range kinds {
			r := start(t, g)
			x := rand.New(rand.NewSource(int64(i)))
			keys := keysOf(x, min(g.Blocks/2, 4*r.most(api.TagRefs)+20))
			root, m := uint32(0), map[uint64]uint64{}
			for n := range 1500 {
				why := fmt.Sprint(g, " ", refs, " ", n)
				key := keys[x.Intn(len(keys))]
				_, there := m[key]
				remove := x.Intn(10) < 3
				if n/250%2 == 1 {
					remove = !remove
				}
				switch {
				case remove && there:
					root = r.delete(why, root, key)
					delete(m, key)
				case remove:
					r.fails(why, api.ErrNone, func() (uint32, api.Errno) { return tree.Delete(r.s, root, key) })
				default:
					old := m[key]
					m[key] = r.value(refs, x.Uint64())
					root = r.insert(why, root, refs, key, m[key])
					if refs && there && r.s.Count(uint32(old)) != 0 {
						t.Fatalf("%s: page %d has a reference", why, old)
					}
				}
				r.lookup(why, root, m, key)
				if n%20 == 0 {
					r.want(why, root, refs, m)
					r.audit(why, root)
				}
			}
			r.lookups(fmt.Sprint(g, refs), root, m)
		}
	}
}

// version is a tree, and what it must contain.
type version struct {
	root uint32
	m    map[uint64]uint64
}

// P14.3: what was shared stays, whatever is derived from it
func TestVersions(t *testing.T) {
	for _, refs := range kinds {
		for _, g := range []api.Geo{{Size: 128, Blocks: 1344}, {Size: 256, Blocks: 1024}} {
			r := start(t, g)
			free := r.s.Free()
			x := rand.New(rand.NewSource(5))
			all := []version{{m: map[uint64]uint64{}}}
			for n := range 1000 {
				why := fmt.Sprint(g, " ", refs, " ", n)
				v := all[x.Intn(len(all))]
				r.share(why, v.root)
				all = append(all, r.derive(why, x, v, refs))
				for len(all) > 25 || r.s.Free() < 100 {
					i := x.Intn(len(all))
					r.drop(why, all[i].root)
					all = slices.Delete(all, i, i+1)
				}
				if n%10 == 0 {
					r.versions(why, all, refs)
				}
			}
			for _, v := range all {
				r.drop("end", v.root)
			}
			if r.s.Free() != free {
				t.Errorf("%v: %d free, want %d", g, r.s.Free(), free)
			}
		}
	}
}

// derive makes another tree of one that is consumed.
func (r *run) derive(why string, x *rand.Rand, v version, refs bool) version {
	r.t.Helper()
	m, key := maps.Clone(v.m), uint64(x.Intn(120))
	if _, there := m[key]; there && x.Intn(2) == 0 {
		delete(m, key)
		return version{r.delete(why, v.root, key), m}
	}
	m[key] = r.value(refs, x.Uint64())
	return version{r.insert(why, v.root, refs, key, m[key]), m}
}

func (r *run) versions(why string, all []version, refs bool) {
	r.t.Helper()
	var roots []uint32
	for _, v := range all {
		r.want(why, v.root, refs, v.m)
		roots = append(roots, v.root)
	}
	r.audit(why, roots...)
}

// P14.3: what was committed is there after a crash, and after Abort and Back
func TestCommitted(t *testing.T) {
	for _, refs := range kinds {
		r := start(t, small)
		root, m := uint32(0), map[uint64]uint64{}
		for key := range uint64(60) {
			m[key] = r.value(refs, key)
			root = r.insert("first", root, refs, key, m[key])
		}
		if e := r.s.Commit(root); e != api.OK {
			t.Fatalf("Commit: error %d", e)
		}
		for _, abort := range []func() api.Errno{r.s.Abort, r.s.Back} {
			r.s.Mark()
			now := root
			for key := range uint64(60) {
				now = r.insert("later", now, refs, 100+key, r.value(refs, 9))
				now = r.delete("later", now, key)
			}
			d, _ := r.d.Crash(nil)
			s, e := space.Open(d)
			if e != api.OK {
				t.Fatalf("Open: error %d", e)
			}
			(&run{t, d, s}).want("crash", root, refs, m)
			if e := abort(); e != api.OK {
				t.Fatalf("error %d", e)
			}
			r.want("Abort, Back", root, refs, m)
			r.audit("Abort, Back", root)
		}
	}
}

// P14.1: whose references the pages are
func TestReferences(t *testing.T) {
	r := start(t, small)
	a, b := r.thing(), r.thing()
	count := func(why string, n uint64, want int) {
		t.Helper()
		if got := r.s.Count(uint32(n)); got != want {
			t.Errorf("%s: %d references, want %d", why, got, want)
		}
	}
	root := r.insert("a", 0, true, 1, a)
	count("a is in the tree", a, 1)
	r.share("a", uint32(a))
	root = r.insert("a once more", root, true, 1, a)
	count("a replaces itself", a, 1)
	r.share("a", uint32(a))
	root = r.insert("a twice", root, true, 2, a)
	count("a is in the tree twice", a, 2)
	r.share("root", root)
	other := r.insert("b", root, true, 1, b)
	count("a is in two trees", a, 3)
	count("b is in one tree", b, 1)
	r.audit("two trees", root, other)
	other = r.delete("b", other, 1)
	count("b is gone", b, 0)
	other = r.delete("a", other, 2)
	count("a is in the first tree", a, 2)
	r.audit("one tree", root)
	root = r.delete("a", root, 2)
	count("a is at 1", a, 1)
	root = r.delete("a", root, 1)
	count("a is gone", a, 0)
	if root != 0 || other != 0 {
		t.Errorf("roots %d, %d", root, other)
	}
	r.audit("nothing")
}

// P14.1: trees are values like any other page
func TestTreeOfTrees(t *testing.T) {
	r := start(t, small)
	free := r.s.Free()
	under, m := uint32(0), map[uint64]uint64{}
	for key := range uint64(20) {
		m[key] = key * key
		under = r.insert("under", under, false, key, m[key])
	}
	r.share("under", under)
	root := r.insert("over", 0, true, 1, uint64(under))
	r.share("over", root)
	root = r.insert("over itself", root, true, 2, uint64(root))
	r.audit("tree of trees", root, under)
	v, e := tree.Lookup(r.s, root, 2)
	if e != api.OK {
		t.Fatalf("Lookup: error %d", e)
	}
	if v, e = tree.Lookup(r.s, uint32(v), 1); e != api.OK || v != uint64(under) {
		t.Errorf("Lookup: %d, error %d", v, e)
	}
	under = r.delete("under", under, 7)
	r.want("as it was", uint32(v), false, m)
	r.drop("under", under)
	root = r.delete("over", root, 1)
	root = r.delete("over", root, 2)
	if root != 0 || r.s.Free() != free {
		t.Errorf("root %d, %d free, want %d", root, r.s.Free(), free)
	}
}

// P14.1: the keys at the ends, in trees of several heights
func TestEnds(t *testing.T) {
	ends := []uint64{0, 1, 1<<32 - 1, 1 << 32, 1<<63 - 1, 1 << 63, math.MaxUint64 - 1, math.MaxUint64}
	for _, refs := range kinds {
		for _, n := range []uint64{0, 1, 4, 5, 6, 7, 12, 40, 70} {
			r := start(t, small)
			root, m := uint32(0), map[uint64]uint64{}
			for i := range n {
				m[1000+i] = r.value(refs, i)
				root = r.insert("middle", root, refs, 1000+i, m[1000+i])
			}
			for _, key := range ends {
				m[key] = r.value(refs, math.MaxUint64)
				root = r.insert("ends", root, refs, key, m[key])
				r.lookups("ends", root, m)
				r.want("ends", root, refs, m)
			}
			for _, key := range ends {
				delete(m, key)
				root = r.delete("ends", root, key)
				r.lookups("without ends", root, m)
				r.want("without ends", root, refs, m)
			}
			r.audit("ends", root)
		}
	}
}

// P14.1: ErrNone, ErrKind and ErrArg, with which nothing changes
func TestErrors(t *testing.T) {
	r := start(t, small)
	roots := map[bool]uint32{}
	for _, refs := range kinds {
		for key := range uint64(40) {
			roots[refs] = r.insert("tree", roots[refs], refs, 2*key+1, r.value(refs, key))
		}
	}
	free := uint64(r.thing())
	r.drop("a page that is not in use", uint32(free))
	pages := uint64(2) // of the counts
	bad := []uint64{0, 1, pages, free, 511, 512, 513, 1 << 31, math.MaxUint32, 1 << 32, 1<<32 + 20, math.MaxUint64}
	for _, refs := range kinds {
		root := roots[refs]
		for _, key := range []uint64{0, 2, 40, 78, 80, math.MaxUint64} {
			r.fails("Delete", api.ErrNone, func() (uint32, api.Errno) { return tree.Delete(r.s, root, key) })
		}
		for _, key := range []uint64{0, 1, 2, 79, 80} {
			r.fails("other kind", api.ErrKind, func() (uint32, api.Errno) { return tree.Insert(r.s, root, !refs, key, free) })
			r.fails("other kind", api.ErrKind, func() (uint32, api.Errno) { return tree.Insert(r.s, root, !refs, key, uint64(root)) })
		}
	}
	for _, value := range bad {
		for _, root := range []uint32{0, roots[true]} {
			for _, key := range []uint64{0, 1, 2, 79, 80} {
				r.fails(fmt.Sprint("value ", value), api.ErrArg, func() (uint32, api.Errno) { return tree.Insert(r.s, root, true, key, value) })
			}
		}
	}
	for _, value := range bad {
		root := r.insert("a number", 0, false, 1, value)
		r.lookup("a number", root, map[uint64]uint64{1: value}, 1)
	}
	for _, key := range []uint64{0, 1, math.MaxUint64} {
		r.fails("no tree", api.ErrNone, func() (uint32, api.Errno) { return tree.Delete(r.s, 0, key) })
		r.lookup("no tree", 0, nil, key)
	}
}

// P14.1: pages of the counts of the last commit are no values
func TestValueOfCounts(t *testing.T) {
	r := start(t, small)
	root := r.insert("a", 0, true, 1, r.thing())
	if e := r.s.Commit(root); e != api.OK {
		t.Fatalf("Commit: error %d", e)
	}
	for n := range uint64(small.Blocks) {
		if _, e := r.s.Get(uint32(n)); e != api.OK {
			r.fails(fmt.Sprint("value ", n), api.ErrArg, func() (uint32, api.Errno) { return tree.Insert(r.s, root, true, 2, n) })
		}
	}
}

// P14.1: a page that is in use is a value even if it is damaged
func TestDamagedValue(t *testing.T) {
	r := start(t, small)
	a := r.thing()
	r.damage(uint32(a))
	root := r.insert("damaged", 0, true, 1, a)
	r.want("damaged", root, true, map[uint64]uint64{1: a})
	b := r.thing()
	r.damage(uint32(b))
	if n, e := tree.Build(r.s, true, []uint64{1}, []uint64{b}); e != api.OK || n == 0 {
		t.Errorf("Build: %d, error %d", n, e)
	}
	if n, e := tree.Delete(r.s, root, 1); n != 0 || e != api.ErrCorrupt { // its kids are not known
		t.Errorf("Delete: %d, error %d", n, e)
	}
}

// P14.1: errors of reading come before those of the arguments
func TestErrorOrder(t *testing.T) {
	r := start(t, small)
	root := r.insert("tree", 0, false, 1, 1)
	r.damage(root)
	r.fails("damaged", api.ErrCorrupt, func() (uint32, api.Errno) { return tree.Insert(r.s, root, true, 1, 0) })
	r.fails("not in use", api.ErrState, func() (uint32, api.Errno) { return tree.Insert(r.s, 100, true, 1, 0) })
	r.fails("no page", api.ErrArg, func() (uint32, api.Errno) { return tree.Insert(r.s, 1, true, 1, 0) })
	page := uint32(r.thing())
	r.fails("no tree", api.ErrCorrupt, func() (uint32, api.Errno) { return tree.Insert(r.s, page, true, 1, 0) })
}

// P14.1, P14.2: spaces that were not made properly
func TestNotSpaces(t *testing.T) {
	for i, s := range notSpaces(t) {
		for _, root := range []uint32{0, 1, 2, 3, math.MaxUint32} {
			if v, e := tree.Lookup(s, root, 1); v != 0 || e != api.ErrNil {
				t.Errorf("%d: Lookup: %d, error %d", i, v, e)
			}
			if n, e := tree.Insert(s, root, false, 1, 1); n != 0 || e != api.ErrNil {
				t.Errorf("%d: Insert: %d, error %d", i, n, e)
			}
			if n, e := tree.Insert(s, root, true, 1, 0); n != 0 || e != api.ErrNil {
				t.Errorf("%d: Insert: %d, error %d", i, n, e)
			}
			if n, e := tree.Delete(s, root, 1); n != 0 || e != api.ErrNil {
				t.Errorf("%d: Delete: %d, error %d", i, n, e)
			}
			if n, e := tree.Len(s, root); n != 0 || e != api.ErrNil {
				t.Errorf("%d: Len: %d, error %d", i, n, e)
			}
			if e := tree.Check(s, root); e != api.ErrNil {
				t.Errorf("%d: Check: error %d", i, e)
			}
			for range tree.Each(s, root, 0) {
				t.Errorf("%d: Each yields something", i)
			}
		}
		if n, e := tree.Build(s, false, nil, []uint64{1}); n != 0 || e != api.ErrNil {
			t.Errorf("%d: Build: %d, error %d", i, n, e)
		}
	}
}

// P14.1: a full space, and a device whose fuse blows
func TestNoSpace(t *testing.T) {
	for _, refs := range kinds {
		r := start(t, api.Geo{Size: 128, Blocks: 40})
		root := r.insert("committed", 0, refs, 0, r.value(refs, 0))
		if e := r.s.Commit(root); e != api.OK {
			t.Fatalf("Commit: error %d", e)
		}
		m := map[uint64]uint64{0: 0}
		if refs {
			m[0], _ = tree.Lookup(r.s, root, 0)
		}
		now, e := root, api.OK
		for key := uint64(1); e == api.OK && key < 1000; key++ {
			value := key
			if refs {
				n, full := r.s.Put(api.Page{Tag: api.TagData})
				if value, e = uint64(n), full; e != api.OK {
					break
				}
			}
			if n, full := tree.Insert(r.s, now, refs, key, value); full == api.OK {
				now = n
			} else if e = full; n != 0 {
				t.Errorf("Insert: %d", n)
			}
		}
		if e != api.ErrFull {
			t.Errorf("Insert: error %d", e)
		}
		if e := r.s.Abort(); e != api.OK {
			t.Fatalf("Abort: error %d", e)
		}
		r.want("Abort", root, refs, m)
		r.audit("Abort", root)
		value := r.value(refs, 1)
		r.d.Fuse(0)
		if n, e := tree.Insert(r.s, root, refs, 1, value); n != 0 || e != api.ErrState {
			t.Errorf("fuse: Insert: %d, error %d", n, e)
		}
	}
}

// P14.1: what a call does not change it does not write
func TestWrites(t *testing.T) {
	for _, refs := range kinds {
		r := start(t, small)
		root := uint32(0)
		for key := range uint64(200) {
			root = r.insert("tree", root, refs, key, r.value(refs, key))
		}
		sh := &shape{full: true}
		r.pairs("tree", root, sh)
		if sh.depth < 3 {
			t.Fatalf("depth %d", sh.depth)
		}
		r.share("tree", root)
		value := r.value(refs, 1)
		ops, free := r.d.Ops(), r.s.Free()
		other := r.insert("replaced", root, refs, 77, value)
		if n := r.d.Ops() - ops; n != sh.depth || r.s.Free() != free-n {
			t.Errorf("%d pages were written, %d are there, of a tree of depth %d", n, free-r.s.Free(), sh.depth)
		}
		r.audit("both", root, other)
	}
}

// inserted is a new tree of some keys, on a device of its own.
func inserted(t *testing.T, g api.Geo, refs bool, keys []uint64) (*run, uint32, map[uint64]uint64) {
	t.Helper()
	r := start(t, g)
	root, m := uint32(0), map[uint64]uint64{}
	for _, key := range keys {
		m[key] = r.value(refs, key+1)
		root = r.insert("tree", root, refs, key, m[key])
	}
	return r, root, m
}

// rule 6: the same calls, the same bytes
func TestSame(t *testing.T) {
	var images []string
	for range 2 {
		r, _, _ := inserted(t, small, true, orders(60)["mixed"])
		r.d.Flush()
		images = append(images, r.d.Image())
	}
	if images[0] != images[1] {
		t.Error("other bytes")
	}
}
