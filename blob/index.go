package blob

import (
	"shadowbook/api"
	"shadowbook/octet"
	"shadowbook/space"
)

// How many bytes of an index page its parts take.
const (
	sizeBytes = 4 // how many bytes the blob has
	kidBytes  = 4 // each page with some of them
)

// index is what an index page contains.
type index struct {
	size int
	kids []uint32
}

// open reads an index page, and looks at no other one.
func open(s *space.Space, n uint32) (index, api.Errno) {
	p, e := s.Get(n)
	switch {
	case e != api.OK:
		return index{}, e
	case p.Tag != api.TagIndex:
		return index{}, api.ErrKind
	case len(p.Data) != sizeBytes:
		return index{}, api.ErrCorrupt
	}
	size := octet.Of([]byte(p.Data))
	if size > api.MaxBytes || len(p.Kids) != pages(int(size), s.Room(0)) {
		return index{}, api.ErrCorrupt
	}
	return index{size: int(size), kids: p.Kids}, api.OK
}

// part reads the page at a place among those with the bytes.
func (x index) part(s *space.Space, i int) (string, api.Errno) {
	p, e := s.Get(x.kids[i])
	if e != api.OK {
		return "", e
	}
	room := s.Room(0)
	if p.Tag != api.TagData || len(p.Kids) > 0 || len(p.Data) != min(room, x.size-i*room) {
		return "", api.ErrCorrupt
	}
	return p.Data, api.OK
}

// mostKids returns how many pages an index page can refer to.
func mostKids(s *space.Space) int {
	return (s.Room(0) - sizeBytes) / kidBytes
}

// pages returns how many pages so many bytes take.
func pages(size, room int) int {
	return (size + room - 1) / room
}
