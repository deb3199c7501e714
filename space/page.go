package space

import (
	"shadowbook/api"
	"shadowbook/frame"
	"shadowbook/octet"
)

// How many bytes of the data of its block the head of a page takes.
const (
	countBytes = 2 // how many kids there are
	kidBytes   = 4 // each of them
)

// room is how many bytes fit into a page behind so many kids.
func room(size, kids int) int {
	left := frame.Room(size) - countBytes
	if kids < 0 || kids > left/kidBytes {
		return 0
	}
	return left - kidBytes*kids
}

// encode returns the block of a page.
func encode(size int, gen uint64, p api.Page) (string, api.Errno) {
	head := make([]byte, 0, countBytes+kidBytes*len(p.Kids))
	head = append(head, octet.Put(nil, uint64(len(p.Kids)), countBytes)...)
	for _, kid := range p.Kids {
		head = append(head, octet.Put(nil, uint64(kid), kidBytes)...)
	}
	return frame.Put(size, api.Frame{Tag: p.Tag, Gen: gen, Data: string(head) + p.Data})
}

// decode returns the page of a block, if it contains one of a device with so many blocks.
func decode(block string, blocks int) (api.Page, bool) {
	f, e := frame.Get(block)
	if e != api.OK || f.Tag < api.TagInner {
		return api.Page{}, false
	}
	r := octet.New([]byte(f.Data))
	kids, ok := readKids(r, uint64(blocks))
	if !ok {
		return api.Page{}, false
	}
	return api.Page{Tag: f.Tag, Kids: kids, Data: f.Data[len(f.Data)-r.Left():]}, true
}

// readKids reads the head of a page, and tells whether it is one.
func readKids(r *octet.Reader, blocks uint64) ([]uint32, bool) {
	n, e := r.Number(countBytes)
	if e != api.OK {
		return nil, false
	}
	var kids []uint32
	for range n {
		kid, e := r.Number(kidBytes)
		if e != api.OK || kid < supers || kid >= blocks {
			return nil, false
		}
		kids = append(kids, uint32(kid))
	}
	return kids, true
}
