package tree

import (
	"iter"

	"shadowbook/api"
	"shadowbook/space"
)

// leaves goes through the leaves in which keys from from on can be. If there is an error, it comes last, without a leaf.
func leaves(s *space.Space, root uint32, from uint64) iter.Seq2[node, api.Errno] {
	return func(yield func(node, api.Errno) bool) {
		if !valid(s) {
			yield(node{}, api.ErrNil)
			return
		}
		var first node
		pass(s, top(root), from, func(leaf node, e api.Errno) bool {
			if first.tag == 0 {
				first = leaf
			}
			if e == api.OK && !leaf.like(first) {
				leaf, e = node{}, api.ErrCorrupt
			}
			return yield(leaf, e) && e == api.OK
		})
	}
}

// like tells whether a leaf can be in one tree with another one.
func (n node) like(other node) bool {
	return n.tag == other.tag && n.at.depth == other.at.depth
}

// pass yields the leaves from a place on down, and tells whether to go on.
func pass(s *space.Space, at place, from uint64, yield func(node, api.Errno) bool) bool {
	n, e := read(s, at)
	if e != api.OK || n.tag != api.TagInner {
		return yield(n, e)
	}
	for i := n.way(from); i < len(n.list); i++ {
		if !pass(s, n.below(i), from, yield) {
			return false
		}
	}
	return true
}

// pass yields the keys of a leaf from from on, and tells whether to go on.
func (n node) pass(from uint64, yield func(uint64, uint64) bool) bool {
	i, _ := n.find(from)
	for _, it := range n.list[i:] {
		if !yield(it.key, it.value) {
			return false
		}
	}
	return true
}
