package tree

import (
	"slices"

	"shadowbook/api"
	"shadowbook/octet"
	"shadowbook/space"
)

// edit makes a tree of another one, in which only the path to a key is different. Nothing is written before everything was read, so that errors of reading change nothing.
type edit struct {
	s     *space.Space
	key   uint64
	leaf  func(node) (node, api.Errno) // what is done to the leaf of the key
	joins bool                         // nodes that get small are joined with those beside them
	depth int                          // of the leaves
	owed  []uint32                     // pages of the old tree that the new one refers to as well
}

// run returns the tree that takes the place of another one.
func (x *edit) run(root uint32) (uint32, api.Errno) {
	if !valid(x.s) {
		return 0, api.ErrNil
	}
	n, e := x.change(top(root))
	if e != api.OK {
		return 0, e
	}
	return x.finish(n, root)
}

// change returns the node at a place as it is to be.
func (x *edit) change(at place) (node, api.Errno) {
	n, e := read(x.s, at)
	switch {
	case e != api.OK:
		return node{}, e
	case n.tag != api.TagInner:
		x.depth = at.depth
		return x.leaf(n)
	}
	i := n.way(x.key)
	kid, e := x.change(n.below(i))
	if e != api.OK {
		return node{}, e
	}
	return x.replace(n, i, kid)
}

// replace returns a node in which a kid is as it is to be.
func (x *edit) replace(n node, i int, kid node) (node, api.Errno) {
	from, to := i, i+1
	if x.joins && x.small(kid) {
		if i > 0 {
			from--
		} else {
			to++
		}
		joined, e := x.join(n, i, kid)
		if e != api.OK {
			return node{}, e
		}
		kid = joined
	}
	n.list = slices.Replace(n.list, from, to, x.parts(kid)...)
	return n, api.OK
}

// small tells whether a node should not have a page of its own. An empty one needs none.
func (x *edit) small(n node) bool {
	return len(n.list) > 0 && len(n.list) < n.most(x.s)/2
}

// join returns a kid in one with the one before it, or, if it is the first, with the one behind it.
func (x *edit) join(n node, i int, kid node) (node, api.Errno) {
	beside := 1
	if i > 0 {
		beside = i - 1
	}
	other, e := read(x.s, n.below(beside))
	switch {
	case e != api.OK:
		return node{}, e
	case other.tag != kid.tag:
		return node{}, api.ErrCorrupt
	case beside < i:
		return node{tag: kid.tag, list: slices.Concat(other.list, kid.list)}, api.OK
	}
	return node{tag: kid.tag, list: slices.Concat(kid.list, other.list)}, api.OK
}

// parts cuts a node into as many as it needs pages, which get as many items each, or one more.
func (x *edit) parts(n node) []item {
	most := n.most(x.s)
	var all []item
	rest := n.list
	for left := (len(rest) + most - 1) / most; left > 0; left-- {
		k := len(rest) / left
		all = append(all, item{key: rest[0].key, fresh: &node{tag: n.tag, list: rest[:k:k]}})
		rest = rest[k:]
	}
	return all
}

// finish puts the tree whose topmost node is given, and drops the old one.
func (x *edit) finish(n node, old uint32) (uint32, api.Errno) {
	roots, e := x.raise(n)
	if e != api.OK {
		return 0, e
	}
	root, e := x.swap(roots, old)
	switch {
	case e == api.ErrArg: // would mean that nothing has changed
		return 0, api.ErrCorrupt
	case e != api.OK:
		return 0, e
	}
	return root, api.OK
}

// raise returns the root of a tree whose topmost node is given, with nodes above it if one page is not enough for it. A tree without keys has none.
func (x *edit) raise(n node) ([]item, api.Errno) {
	if n.tag == api.TagInner && len(n.list) == 1 {
		return n.list, api.OK
	}
	roots := x.parts(n)
	for depth := x.depth; len(roots) > 1; depth++ {
		if depth == maxDepth {
			return nil, api.ErrLimit
		}
		roots = x.parts(node{tag: api.TagInner, list: roots})
	}
	return roots, api.OK
}

// swap puts the new tree, which then gets its references before the old one loses them.
func (x *edit) swap(roots []item, old uint32) (uint32, api.Errno) {
	root := uint32(0)
	for _, it := range roots { // at most one
		n, e := x.page(it)
		if e != api.OK {
			return 0, e
		}
		root = n
	}
	late, e := x.share(x.owed)
	if e != api.OK {
		return 0, e
	}
	if old != 0 {
		if e := x.s.Drop(old); e != api.OK {
			return 0, e
		}
	}
	for _, n := range late {
		if e := x.s.Share(n); e != api.OK {
			return 0, e
		}
	}
	return root, api.OK
}

// share adds references to pages. It returns those that have as many as there can be: they get theirs when the old tree has lost its own.
func (x *edit) share(pages []uint32) (late []uint32, e api.Errno) {
	for _, n := range pages {
		switch e := x.s.Share(n); e {
		case api.OK:
		case api.ErrLimit:
			late = append(late, n)
		default:
			return nil, e
		}
	}
	return late, api.OK
}

// page returns the page of an item, which is put if it is not there yet.
func (x *edit) page(it item) (uint32, api.Errno) {
	switch {
	case it.fresh != nil:
		return x.put(*it.fresh)
	case !it.given:
		x.owed = append(x.owed, uint32(it.value))
	}
	return uint32(it.value), api.OK
}

// put puts a node into one page, and before it those below it.
func (x *edit) put(n node) (uint32, api.Errno) {
	p := api.Page{Tag: n.tag}
	var data []byte
	for _, it := range n.list {
		data = append(data, octet.Put(nil, it.key, wordBytes)...)
		if n.tag == api.TagLeaf {
			data = append(data, octet.Put(nil, it.value, wordBytes)...)
			continue
		}
		kid, e := x.page(it)
		if e != api.OK {
			return 0, e
		}
		p.Kids = append(p.Kids, kid)
	}
	p.Data = string(data)
	return x.s.Put(p)
}
