package super

import (
	"shadowbook/api"
	"shadowbook/octet"
)

// headSizes is how many bytes the numbers before the pages have: Size, Blocks, Root, how many pages there are.
var headSizes = [...]int{4, 4, 4, 2}

const (
	headBytes = 14 // all of headSizes
	pageBytes = 4
)

// head is a super without its slice, which == does not compare: the number of the pages is in its place.
type head struct {
	gen   uint64
	geo   api.Geo
	root  uint32
	pages int
}

func headOf(s api.Super) head {
	return head{gen: s.Gen, geo: s.Geo, root: s.Root, pages: len(s.Pages)}
}

// data returns the bytes of a super that is valid.
func data(s api.Super) string {
	b := headOf(s).put()
	for _, page := range s.Pages {
		b = append(b, octet.Put(nil, uint64(page), pageBytes)...)
	}
	return string(b)
}

// read reads the super of a frame, whatever it is: but there must be the bytes that data puts for it.
func read(f api.Frame) (api.Super, bool) {
	r := octet.New([]byte(f.Data))
	h, ok := readHead(f.Gen, r)
	if !ok {
		return api.Super{}, false
	}
	s := api.Super{Gen: h.gen, Geo: h.geo, Root: h.root}
	for r.Left() > 0 {
		page, e := r.Number(pageBytes)
		if e != api.OK {
			return api.Super{}, false
		}
		s.Pages = append(s.Pages, uint32(page))
	}
	return s, headOf(s) == h
}

func (h head) put() []byte {
	var b []byte
	for i, v := range [len(headSizes)]uint64{uint64(h.geo.Size), uint64(h.geo.Blocks), uint64(h.root), uint64(h.pages)} {
		b = append(b, octet.Put(nil, v, headSizes[i])...)
	}
	return b
}

func readHead(gen uint64, r *octet.Reader) (head, bool) {
	var v [len(headSizes)]uint64
	for i, n := range headSizes {
		got, e := r.Number(n)
		if e != api.OK {
			return head{}, false
		}
		v[i] = got
	}
	return head{gen: gen, geo: api.Geo{Size: int(v[0]), Blocks: int(v[1])}, root: uint32(v[2]), pages: int(v[3])}, true
}
