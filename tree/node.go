package tree

import (
	"cmp"
	"math"
	"slices"

	"shadowbook/api"
	"shadowbook/octet"
	"shadowbook/space"
)

// How many bytes of a page the parts of an item take.
const (
	wordBytes = 8 // a key, or a number
	kidBytes  = 4
)

// maxDepth is the greatest depth of a leaf.
const maxDepth = 16

// item is a key and what it leads to.
type item struct {
	key   uint64
	value uint64 // a number, or a page
	given bool   // the reference to that page is the caller's, and is to become the tree's
	fresh *node  // in place of a page: a node that is not put yet
}

// node is the contents of a page, or what is to be put into one or more pages.
type node struct {
	at   place
	tag  byte
	list []item
}

// place is where in a tree a page is, and which keys belong there.
type place struct {
	page  uint32
	depth int
	first uint64 // the smallest key; a root may have any
	last  uint64 // no key is greater
}

func top(root uint32) place {
	return place{page: root, depth: 1, last: math.MaxUint64}
}

// read reads the page at a place. A tree without keys has none, which is read as a leaf without a tag.
func read(s *space.Space, at place) (node, api.Errno) {
	if at.page == 0 {
		return node{at: at}, api.OK
	}
	p, e := s.Get(at.page)
	if e != api.OK {
		return node{}, e
	}
	list, ok := items(p)
	n := node{at: at, tag: p.Tag, list: list}
	if !ok || !n.belongs() {
		return node{}, api.ErrCorrupt
	}
	return n, api.OK
}

// items reads the keys of a page, and their values.
func items(p api.Page) ([]item, bool) {
	switch p.Tag {
	case api.TagLeaf:
		return pairs(p)
	case api.TagRefs, api.TagInner:
		return kids(p)
	}
	return nil, false
}

// pairs reads keys with numbers behind them.
func pairs(p api.Page) ([]item, bool) {
	all, ok := words(p.Data)
	if !ok || len(all)%2 != 0 || len(p.Kids) > 0 {
		return nil, false
	}
	list := make([]item, 0, len(all)/2)
	for pair := range slices.Chunk(all, 2) {
		list = append(list, item{key: pair[0], value: pair[1]})
	}
	return list, true
}

// kids reads keys of pages.
func kids(p api.Page) ([]item, bool) {
	all, ok := words(p.Data)
	if !ok || len(all) != len(p.Kids) {
		return nil, false
	}
	list := make([]item, 0, len(all))
	for i, key := range all {
		list = append(list, item{key: key, value: uint64(p.Kids[i])})
	}
	return list, true
}

// words reads numbers of eight bytes.
func words(data string) ([]uint64, bool) {
	var all []uint64
	r := octet.New([]byte(data))
	for r.Left() > 0 {
		v, e := r.Number(wordBytes)
		if e != api.OK {
			return nil, false
		}
		all = append(all, v)
	}
	return all, true
}

// belongs tells whether a page can be in a tree, at its place.
func (n node) belongs() bool {
	least := 1
	if n.tag == api.TagInner {
		least = 2
	}
	switch {
	case len(n.list) < least, !n.ascends():
		return false
	case n.tag == api.TagInner && n.at.depth == maxDepth: // what is below would be too deep
		return false
	case n.at.depth > 1 && n.list[0].key != n.at.first:
		return false
	}
	return n.list[len(n.list)-1].key <= n.at.last
}

// ascends tells whether the keys ascend strictly.
func (n node) ascends() bool {
	for i := 1; i < len(n.list); i++ {
		if n.list[i-1].key >= n.list[i].key {
			return false
		}
	}
	return true
}

// find returns where a key is, or where it would be, and whether it is there.
func (n node) find(key uint64) (int, bool) {
	return slices.BinarySearchFunc(n.list, key, func(it item, key uint64) int {
		return cmp.Compare(it.key, key)
	})
}

// way returns which kid a key belongs to.
func (n node) way(key uint64) int {
	i, there := n.find(key)
	if there || i == 0 { // keys that are smaller than all others belong to the first kid, too
		return i
	}
	return i - 1
}

// below returns the place of a kid.
func (n node) below(i int) place {
	kid := place{page: uint32(n.list[i].value), depth: n.at.depth + 1, first: n.list[i].key, last: n.at.last}
	if i+1 < len(n.list) {
		kid.last = n.list[i+1].key - 1
	}
	return kid
}

// most returns how many items fit into a page.
func (n node) most(s *space.Space) int {
	if n.tag == api.TagLeaf {
		return s.Room(0) / (wordBytes + wordBytes)
	}
	return s.Room(0) / (wordBytes + kidBytes)
}
