package tree_test

import (
	"fmt"
	"math"
	"slices"
	"testing"

	"shadowbook/api"
	"shadowbook/tree"
)

// tens are the keys from 10 on, ten apart, so many of them.
func tens(n int) []uint64 {
	var l []uint64
	for i := range n {
		l = append(l, 10*uint64(i+1))
	}
	return l
}

// P14.2: from each key, and from those beside it
func TestEach(t *testing.T) {
	for _, refs := range kinds {
		for _, n := range []int{0, 1, 2, 6, 7, 9, 10, 50, 120} {
			r, root, m := inserted(t, small, refs, tens(n))
			l := sorted(m)
			for from := range uint64(10*n + 25) {
				i := slices.IndexFunc(l, func(p pair) bool { return p.key >= from })
				var want []pair
				if i >= 0 {
					want = l[i:]
				}
				if got := r.collect(root, from); !slices.Equal(got, want) {
					t.Fatalf("%d keys from %d: %v, want %v", n, from, got, want)
				}
			}
			for _, from := range []uint64{1 << 32, 1 << 63, math.MaxUint64} {
				if got := r.collect(root, from); len(got) != 0 {
					t.Fatalf("%d keys from %d: %v", n, from, got)
				}
			}
		}
	}
	r, root, _ := inserted(t, small, false, []uint64{0, 1 << 63, math.MaxUint64})
	if got := r.collect(root, math.MaxUint64); len(got) != 1 || got[0].key != math.MaxUint64 {
		t.Errorf("the greatest key there is: %v", got)
	}
}

// P14.2: Each ends when it is asked to, and begins anew
func TestEachBreak(t *testing.T) {
	r, root, m := inserted(t, small, false, tens(60))
	l := sorted(m)
	all := tree.Each(r.s, root, 100)
	for most := range 55 {
		var got []pair
		if most > 0 {
			for key, value := range all {
				if got = append(got, pair{key, value}); len(got) == most {
					break
				}
			}
		}
		if want := l[9 : 9+min(most, 51)]; !slices.Equal(got, want) {
			t.Fatalf("the first %d: %v, want %v", most, got, want)
		}
	}
	for key := range all {
		n := 0
		for range tree.Each(r.s, root, key) {
			n++
		}
		if want := len(l) + 1 - int(key/10); n != want {
			t.Errorf("from %d: %d keys, want %d", key, n, want)
		}
	}
}

// P14.2: the tree can be changed meanwhile, if it was shared
func TestEachChanged(t *testing.T) {
	r, root, m := inserted(t, small, true, tens(60))
	r.share("tree", root)
	now, l := root, []uint64(nil)
	for key := range tree.Each(r.s, root, 0) {
		l = append(l, key)
		now = r.delete("meanwhile", now, key)
		now = r.insert("meanwhile", now, true, key+5, r.thing())
	}
	if !slices.Equal(l, tens(60)) {
		t.Errorf("%v", l)
	}
	r.want("the old tree", root, true, m)
	r.audit("both", root, now)
}

// seen is a page of a tree, with how many keys there are in leaves before it, and which keys are below it.
type seen struct {
	page   uint32
	before int
	keys   []uint64
}

// pagesOf are the pages of a tree.
func (r *run) pagesOf(root uint32, before int) []seen {
	p, e := r.s.Get(root)
	if e != api.OK {
		r.t.Fatalf("page %d: error %d", root, e)
	}
	here := seen{root, before, nil}
	var all []seen
	switch p.Tag {
	case api.TagInner:
		for _, kid := range p.Kids {
			below := r.pagesOf(kid, before+len(here.keys))
			here.keys = append(here.keys, below[0].keys...)
			all = append(all, below...)
		}
	case api.TagRefs:
		here.keys = r.words("leaf", p)
	default:
		for i, w := range r.words("leaf", p) {
			if i%2 == 0 {
				here.keys = append(here.keys, w)
			}
		}
	}
	return append([]seen{here}, all...)
}

// P14.1, P14.2: a page that cannot be read
func TestDamaged(t *testing.T) {
	for _, refs := range kinds {
		_, model, _ := inserted(t, small, refs, tens(70))
		first, _, m := inserted(t, small, refs, tens(70))
		l := sorted(m)
		for _, bad := range first.pagesOf(model, 0) {
			why := fmt.Sprint(refs, " page ", bad.page)
			r, root, _ := inserted(t, small, refs, tens(70))
			r.damage(bad.page)
			for i, p := range l {
				_, e := tree.Lookup(r.s, root, p.key)
				if want := corruptIf(slices.Contains(bad.keys, p.key)); e != want {
					t.Fatalf("%s: Lookup %d: error %d, want %d", why, p.key, e, want)
				}
				want := l[i:]
				if end := bad.before + len(bad.keys); i < end {
					want = l[i:max(i, bad.before)]
				}
				if got := r.collect(root, p.key); !slices.Equal(got, want) {
					t.Fatalf("%s: Each from %d: %v, want %v", why, p.key, got, want)
				}
			}
			if n, e := tree.Len(r.s, root); n != 0 || e != api.ErrCorrupt {
				t.Errorf("%s: Len: %d, error %d", why, n, e)
			}
			if e := tree.Check(r.s, root); e != api.ErrCorrupt {
				t.Errorf("%s: Check: error %d", why, e)
			}
			for _, key := range bad.keys {
				r.fails(why, api.ErrCorrupt, func() (uint32, api.Errno) { return tree.Delete(r.s, root, key) })
				r.fails(why, api.ErrCorrupt, func() (uint32, api.Errno) { return tree.Insert(r.s, root, refs, key, 7) })
				r.fails(why, api.ErrCorrupt, func() (uint32, api.Errno) { return tree.Insert(r.s, root, refs, key+1, 7) })
			}
		}
	}
}

func corruptIf(bad bool) api.Errno {
	if bad {
		return api.ErrCorrupt
	}
	return api.OK
}

// P14.2: keys are read one by one, as they are asked for
func TestEachReads(t *testing.T) {
	r, root, _ := inserted(t, small, false, tens(70))
	leaves := r.pagesOf(root, 0)
	last := leaves[len(leaves)-1]
	n := 0
	for range tree.Each(r.s, root, 0) {
		if n == 0 {
			r.damage(last.page)
		}
		n++
	}
	if n != last.before {
		t.Errorf("%d keys, want %d", n, last.before)
	}
	for key := range tree.Each(r.s, root, 0) { // the damaged page is not reached
		if key == last.keys[0]-10 {
			break
		}
	}
}

// P14.1, P14.2: a page that has no references any more, and blocks that are no pages
func TestUnreadable(t *testing.T) {
	r := start(t, small)
	gone := r.insert("gone", 0, false, 1, 1)
	r.drop("gone", gone)
	for n, want := range map[uint32]api.Errno{1: api.ErrArg, 2: api.ErrArg, 512: api.ErrArg, math.MaxUint32: api.ErrArg, gone: api.ErrState, 300: api.ErrState} {
		why := fmt.Sprint("root ", n)
		if v, e := tree.Lookup(r.s, n, 1); v != 0 || e != want {
			t.Errorf("%s: Lookup: %d, error %d", why, v, e)
		}
		r.fails(why, want, func() (uint32, api.Errno) { return tree.Insert(r.s, n, false, 1, 1) })
		r.fails(why, want, func() (uint32, api.Errno) { return tree.Delete(r.s, n, 1) })
		if k, e := tree.Len(r.s, n); k != 0 || e != want {
			t.Errorf("%s: Len: %d, error %d", why, k, e)
		}
		if e := tree.Check(r.s, n); e != api.ErrCorrupt {
			t.Errorf("%s: Check: error %d", why, e)
		}
		if l := r.collect(n, 0); len(l) != 0 {
			t.Errorf("%s: Each: %v", why, l)
		}
	}
}

// values are some for such keys; those that are pages are one page, with as many references.
func (r *run) values(refs bool, keys []uint64) ([]uint64, map[uint64]uint64) {
	page, m := uint64(0), map[uint64]uint64{}
	l := []uint64{}
	for i, key := range keys {
		switch {
		case !refs:
			m[key] = ^key
		case i == 0:
			page = r.thing()
			m[key] = page
		default:
			r.share("value", uint32(page))
			m[key] = page
		}
		l = append(l, m[key])
	}
	return l, m
}

// P14.2: trees of all small sizes, and of some great ones
func TestBuild(t *testing.T) {
	for _, g := range []api.Geo{small, {Size: 192, Blocks: 512}, {Size: 4096, Blocks: 64}} {
		for _, refs := range kinds {
			r := start(t, g)
			free := r.s.Free()
			leaf, inner := r.most(api.TagLeaf), r.most(api.TagInner)
			if refs {
				leaf = inner
			}
			for _, n := range []int{0, 1, 2, 3, leaf - 1, leaf, leaf + 1, 2 * leaf, 2*leaf + 1, 3*leaf - 1, 5*leaf + 1, leaf * inner, leaf*inner + 1, 2*leaf*inner + 1, 200, 201, 6000} {
				if n > g.Size*g.Blocks/50 {
					continue
				}
				keys := tens(n)
				values, m := r.values(refs, keys)
				why := fmt.Sprint(g, " ", refs, " ", n)
				root, e := tree.Build(r.s, refs, keys, values)
				if e != api.OK {
					t.Fatalf("%s: error %d", why, e)
				}
				r.want(why, root, refs, m)
				r.audit(why, root)
				for i := 0; i < n; i += max(1, n/20) {
					root = r.delete(why, root, keys[i])
					delete(m, keys[i])
					r.lookup(why, root, m, keys[i])
					m[keys[i]+5] = r.value(refs, 3)
					root = r.insert(why, root, refs, keys[i]+5, m[keys[i]+5])
				}
				r.want(why, root, refs, m)
				r.audit(why, root)
				r.drop(why, root)
				if r.s.Free() != free {
					t.Fatalf("%s: %d free, want %d", why, r.s.Free(), free)
				}
			}
		}
	}
}

// P14.2: pages are as full as they can be, and a tree is no higher than it must be
func TestBuildFull(t *testing.T) {
	for _, refs := range kinds {
		for _, n := range []int{1, 6, 7, 9, 10, 54, 55, 81, 82, 487, 730} {
			r := start(t, small)
			values, m := r.values(refs, tens(n))
			free := r.s.Free()
			root, _ := tree.Build(r.s, refs, tens(n), values)
			level, pages := 6, 0
			if refs {
				level = 9
			}
			for k := n; k > 1 || pages == 0; level = 9 {
				k = (k + level - 1) / level
				pages += k
			}
			r.want("full", root, refs, m)
			if got := free - r.s.Free(); got != pages {
				t.Errorf("%d keys: %d pages, want %d", n, got, pages)
			}
		}
	}
}

// P14.2: the ends of the keys
func TestBuildEnds(t *testing.T) {
	r := start(t, small)
	keys := []uint64{0, 1, 1<<32 - 1, 1 << 32, 1<<63 - 1, 1 << 63, math.MaxUint64 - 1, math.MaxUint64}
	root, e := tree.Build(r.s, false, keys, keys)
	if e != api.OK {
		t.Fatalf("error %d", e)
	}
	m := map[uint64]uint64{}
	for _, key := range keys {
		m[key] = key
	}
	r.want("ends", root, false, m)
	r.lookups("ends", root, m)
}

// P14.2: the errors of Build, with which nothing changes
func TestBuildErrors(t *testing.T) {
	r := start(t, small)
	a := r.thing()
	free := uint64(r.thing())
	r.drop("a page that is not in use", uint32(free))
	wrong := func(why string, refs bool, keys, values []uint64) {
		t.Helper()
		r.fails(why, api.ErrArg, func() (uint32, api.Errno) { return tree.Build(r.s, refs, keys, values) })
	}
	for _, refs := range kinds {
		wrong("more keys", refs, []uint64{1, 2}, []uint64{a})
		wrong("more values", refs, []uint64{1, 2}, []uint64{a, a, a})
		wrong("no keys", refs, nil, []uint64{a})
		wrong("no values", refs, []uint64{1}, nil)
		wrong("equal keys", refs, []uint64{1, 1}, []uint64{a, a})
		wrong("falling keys", refs, []uint64{2, 1}, []uint64{a, a})
		wrong("equal keys at the end", refs, []uint64{1, 2, 3, 3}, []uint64{a, a, a, a})
		wrong("falling keys at the ends", refs, []uint64{math.MaxUint64, 0}, []uint64{a, a})
		wrong("a key out of order", refs, []uint64{1, 2, 5, 4, 6, 7, 8, 9, 10}, []uint64{a, a, a, a, a, a, a, a, a})
	}
	bad := []uint64{0, 1, 2, free, 512, 1 << 31, math.MaxUint32, 1<<32 + a, math.MaxUint64}
	for _, value := range bad {
		wrong(fmt.Sprint("value ", value), true, []uint64{1}, []uint64{value})
		wrong(fmt.Sprint("last value ", value), true, []uint64{1, 2}, []uint64{a, value})
		wrong(fmt.Sprint("first value ", value), true, []uint64{1, 2}, []uint64{value, a})
	}
	for _, value := range bad {
		if root, e := tree.Build(r.s, false, []uint64{1, 2}, []uint64{value, value}); root == 0 || e != api.OK {
			t.Errorf("number %d: %d, error %d", value, root, e)
		}
	}
	for _, refs := range kinds {
		if root, e := tree.Build(r.s, refs, nil, []uint64{}); root != 0 || e != api.OK {
			t.Errorf("no keys: %d, error %d", root, e)
		}
	}
}

// P14.2: a full space, and a device whose fuse blows
func TestBuildNoSpace(t *testing.T) {
	r := start(t, api.Geo{Size: 128, Blocks: 20})
	if root, e := tree.Build(r.s, false, tens(200), tens(200)); root != 0 || e != api.ErrFull {
		t.Errorf("%d, error %d", root, e)
	}
	if r.s.Abort() != api.OK {
		t.Fatal("Abort")
	}
	r.audit("Abort")
	r.d.Fuse(2)
	if root, e := tree.Build(r.s, false, tens(20), tens(20)); root != 0 || e != api.ErrState {
		t.Errorf("%d, error %d", root, e)
	}
}

// rule 3: what is passed stays as it is
func TestBuildArguments(t *testing.T) {
	r := start(t, small)
	keys, values := make([]uint64, 30, 40), make([]uint64, 30, 40)
	copy(keys, tens(30))
	for i := range 10 {
		keys[:40][30+i], values[:40][30+i] = 7, 7
	}
	root, e := tree.Build(r.s, false, keys, values)
	if e != api.OK {
		t.Fatalf("error %d", e)
	}
	for i := range 40 {
		if want := uint64(10 * (i + 1)); i < 30 && (keys[i] != want || values[i] != 0) || i >= 30 && (keys[:40][i] != 7 || values[:40][i] != 7) {
			t.Errorf("place %d: %d, %d", i, keys[:40][i], values[:40][i])
		}
	}
	clear(keys)
	clear(values[:40])
	if n, e := tree.Len(r.s, root); n != 30 || e != api.OK {
		t.Errorf("Len: %d, error %d", n, e)
	}
}
