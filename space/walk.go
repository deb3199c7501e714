package space

import (
	"iter"
	"slices"

	"shadowbook/api"
)

// Walk counts the references to each block, from what is reachable from the roots.
func (s *Space) Walk(roots []uint32) (counts []int, e api.Errno) {
	if !s.valid() {
		return nil, api.ErrNil
	}
	counts = make([]int, s.last.Geo.Blocks)
	for n := range supers {
		counts[n] = 1
	}
	for _, n := range s.last.Pages {
		counts[n] = 1
	}
	for n, e := range s.references(roots) {
		if e != api.OK {
			return nil, e
		}
		counts[n]++
	}
	return counts, api.OK
}

// Audit tells whether each count is the number of references, from what is reachable from the roots.
func (s *Space) Audit(roots []uint32) api.Errno {
	counts, e := s.Walk(roots)
	switch {
	case e != api.OK:
		return e
	case !slices.Equal(counts, s.now.All()):
		return api.ErrState
	}
	return api.OK
}

// references goes through the references to pages: those of the pages that are reachable, and the roots, which exist if nothing was wrong until then.
func (s *Space) references(roots []uint32) iter.Seq2[uint32, api.Errno] {
	return func(yield func(uint32, api.Errno) bool) {
		for p, e := range s.pages(roots) {
			if e != api.OK {
				yield(0, e)
				return
			}
			for _, kid := range p.Kids {
				if !yield(kid, api.OK) {
					return
				}
			}
		}
		for _, root := range roots {
			if root != 0 && !yield(root, api.OK) {
				return
			}
		}
	}
}

// pages goes through the pages that are reachable, each once, up to the first that cannot be read.
func (s *Space) pages(roots []uint32) iter.Seq2[api.Page, api.Errno] {
	return func(yield func(api.Page, api.Errno) bool) {
		seen := map[uint32]struct{}{0: {}} // 0 is no root
		stack := pushed(nil, roots)
		for len(stack) > 0 {
			n := stack[len(stack)-1]
			stack = stack[:len(stack)-1]
			if _, ok := seen[n]; ok {
				continue
			}
			seen[n] = struct{}{}
			p, e := s.Get(n)
			if !yield(p, e) {
				return
			}
			stack = pushed(stack, p.Kids)
		}
	}
}

// pushed puts the first one of the pages on top.
func pushed(stack, pages []uint32) []uint32 {
	for _, n := range slices.Backward(pages) {
		stack = append(stack, n)
	}
	return stack
}
