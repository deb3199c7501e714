package space

import (
	"shadowbook/api"
	"shadowbook/counts"
	"shadowbook/device"
	"shadowbook/frame"
	"shadowbook/super"
)

// Commit makes the current pages those that are there after a crash.
func (s *Space) Commit(root uint32) api.Errno {
	if e := s.checkRoot(root); e != api.OK {
		return e
	}
	c := s.now.Clone()
	vacate(c, s.last.Pages)
	pages, e := take(c, s.keep, len(s.last.Pages)) // not the old ones: they are held
	gen := s.next()
	switch {
	case e != api.OK:
		return e
	case gen == 0:
		return api.ErrLimit
	}
	slot, last := super.Other(s.slot), api.Super{Gen: gen, Geo: s.last.Geo, Root: root, Pages: pages}
	if e := save(s.dev, slot, last, c); e != api.OK {
		return e
	}
	s.hold(slot, last, c)
	return api.OK
}

// Abort makes the current pages again those that were committed last.
func (s *Space) Abort() api.Errno {
	if !s.valid() {
		return api.ErrNil
	}
	s.hold(s.slot, s.last, s.held)
	return api.OK
}

// checkRoot tells why a page cannot be the root, if it cannot.
func (s *Space) checkRoot(root uint32) api.Errno {
	if s.valid() && root == 0 {
		return api.OK
	}
	return s.used(root)
}

// take takes n blocks, the smallest first.
func take(c, held *counts.Counts, n int) ([]uint32, api.Errno) {
	blocks := make([]uint32, 0, n)
	for range n {
		block, e := c.Take(held)
		if e != api.OK {
			return nil, e
		}
		blocks = append(blocks, block)
	}
	return blocks, api.OK
}

// vacate removes all references to some blocks.
func vacate(c *counts.Counts, blocks []uint32) {
	for _, n := range blocks {
		for c.Get(n) > 0 {
			c.Sub(n)
		}
	}
}

// save commits counts in two steps: only when they are durable the super that names their pages is written.
func save(d *device.Device, slot int, s api.Super, c *counts.Counts) api.Errno {
	for i, data := range c.Pages() {
		block, e := frame.Put(s.Geo.Size, api.Frame{Tag: api.TagCounts, Gen: s.Gen, Data: data})
		if e != api.OK {
			return e
		}
		if e := d.Write(int(s.Pages[i]), block); e != api.OK {
			return e
		}
	}
	if e := d.Flush(); e != api.OK {
		return e
	}
	block, e := super.Put(s)
	if e != api.OK {
		return e
	}
	if e := d.Write(slot, block); e != api.OK {
		return e
	}
	return d.Flush()
}

// load reads the counts that were committed with a super.
func load(d *device.Device, s api.Super) (*counts.Counts, api.Errno) {
	pages := make([]string, 0, len(s.Pages))
	for _, n := range s.Pages {
		block, e := d.Read(int(n))
		if e != api.OK {
			return nil, e
		}
		f, e := frame.Kind(block, api.TagCounts)
		switch {
		case e != api.OK:
			return nil, e
		case f.Gen != s.Gen:
			return nil, api.ErrBad
		}
		pages = append(pages, f.Data)
	}
	return counts.Load(s.Geo, pages)
}
