package space

import (
	"shadowbook/api"
	"shadowbook/counts"
)

// Mark remembers the current counts, to return to them.
func (s *Space) Mark() api.Errno {
	switch {
	case !s.valid():
		return api.ErrNil
	case s.mark != nil:
		return api.ErrState
	}
	keep, e := s.union(s.held, s.now)
	if e != api.OK {
		return e
	}
	s.mark, s.keep = s.now.Clone(), keep
	return api.OK
}

// Back returns to the mark, and removes it.
func (s *Space) Back() api.Errno {
	if e := s.marked(); e != api.OK {
		return e
	}
	s.now = s.mark
	s.unmark()
	return api.OK
}

// Done removes the mark.
func (s *Space) Done() api.Errno {
	if e := s.marked(); e != api.OK {
		return e
	}
	s.unmark()
	return api.OK
}

// marked tells why there is no mark, if there is none.
func (s *Space) marked() api.Errno {
	switch {
	case !s.valid():
		return api.ErrNil
	case s.mark == nil:
		return api.ErrState
	}
	return api.OK
}

// unmark leaves nothing to be kept but what is held.
func (s *Space) unmark() {
	s.mark, s.keep = nil, s.held
}

// union returns counts by which each block is in use that is in use by one of the two.
func (s *Space) union(a, b *counts.Counts) (*counts.Counts, api.Errno) {
	pages := a.Pages()
	for i, page := range b.Pages() {
		pages[i] = either(pages[i], page)
	}
	return counts.Load(s.last.Geo, pages)
}

// either returns the bits that one of two pages has: a count is 0 there only if it is in both.
func either(a, b string) string {
	bits := []byte(a)
	for i := range bits {
		bits[i] |= b[i]
	}
	return string(bits)
}
