package counts

import (
	"slices"

	"shadowbook/api"
	"shadowbook/frame"
	"shadowbook/octet"
	"shadowbook/super"
)

// countBytes is how many bytes a count takes in a page.
const countBytes = 2

// Pages returns the bytes of the counts, cut to what fits into a page.
func (c *Counts) Pages() []string {
	if !c.valid() {
		return nil
	}
	pages := make([]string, 0, super.Pages(c.geo))
	for part := range slices.Chunk(c.of, perPage(c.geo)) {
		pages = append(pages, put(part))
	}
	return pages
}

// Load returns the counts of which these are the pages.
func Load(g api.Geo, pages []string) (*Counts, api.Errno) {
	c, e := New(g)
	switch {
	case e != api.OK:
		return nil, e
	case len(pages) != super.Pages(g) || !c.fill(pages):
		return nil, api.ErrBad
	}
	return c, api.OK
}

// fill reads as many pages as the counts need; it tells whether they are those of counts.
func (c *Counts) fill(pages []string) bool {
	i := 0
	for part := range slices.Chunk(c.of, perPage(c.geo)) { // a piece of the counts themselves
		if len(pages[i]) != countBytes*len(part) {
			return false
		}
		read(part, pages[i])
		i++
	}
	for _, count := range c.of[:supers] {
		if count != 1 {
			return false
		}
	}
	return true
}

// perPage is how many counts fit into a page: none of them is cut, as there is always room for an even number of bytes.
func perPage(g api.Geo) int {
	return frame.Room(g.Size) / countBytes
}

// put returns the bytes of some counts.
func put(part []uint16) string {
	b := make([]byte, 0, countBytes*len(part))
	for _, count := range part {
		b = append(b, octet.Put(nil, uint64(count), countBytes)...)
	}
	return string(b)
}

// read fills some counts from a page that has as many.
func read(part []uint16, page string) {
	b := []byte(page)
	for i := range part {
		part[i] = uint16(octet.Of(b[countBytes*i:][:countBytes]))
	}
}
