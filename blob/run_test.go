package blob_test

import (
	"encoding/binary"
	"slices"
	"strings"
	"testing"

	"shadowbook/api"
	"shadowbook/blob"
	"shadowbook/device"
	"shadowbook/space"
)

// geos are those with the fewest and the most bytes in a page, and those on both sides of where MaxBytes is less than what an index page can refer to.
var geos = []api.Geo{{Size: 128, Blocks: 128}, {Size: 192, Blocks: 128}, {Size: 512, Blocks: 256}, {Size: 576, Blocks: 256}, {Size: 4096, Blocks: 64}}

var small = api.Geo{Size: 128, Blocks: 64}

// room is how many bytes fit into a page.
func room(g api.Geo) int {
	return g.Size - 18
}

// most is how many bytes a blob can have.
func most(g api.Geo) int {
	kids := 0
	for 4+4*(kids+1) <= room(g) {
		kids++
	}
	return min(kids*room(g), 65536)
}

// pagesOf is how many pages there are with the bytes of a blob.
func pagesOf(g api.Geo, size int) int {
	n := 0
	for n*room(g) < size {
		n++
	}
	return n
}

// lengths are those at which something ends.
func lengths(g api.Geo) []int {
	l := []int{0, 1, 2, 255, 256, 257, most(g) / 2}
	for _, end := range []int{room(g), 2 * room(g), 3 * room(g), most(g) - room(g), most(g)} {
		l = append(l, end-1, end, end+1)
	}
	l = slices.DeleteFunc(l, func(n int) bool { return n > most(g) })
	slices.Sort(l)
	return slices.Compact(l)
}

// text is a string in which no place is like another one close to it.
func text(seed, n int) string {
	b, x := make([]byte, n), uint32(seed)
	for i := range b {
		x = x*1664525 + 1013904223
		b[i] = byte(x >> 24)
	}
	return string(b)
}

// run is a space on its device.
type run struct {
	t *testing.T
	d *device.Device
	s *space.Space
}

func start(t *testing.T, g api.Geo) *run {
	t.Helper()
	d, e := device.New(g)
	if e != api.OK {
		t.Fatalf("%v: error %d", g, e)
	}
	s, e := space.Format(d)
	if e != api.OK {
		t.Fatalf("Format %v: error %d", g, e)
	}
	return &run{t, d, s}
}

// notSpaces are spaces that were not made properly.
func notSpaces(t *testing.T) []*space.Space {
	c := *start(t, small).s
	return []*space.Space{nil, {}, &c}
}

// page puts a page as it is given.
func (r *run) page(tag byte, data string, kids ...uint32) uint32 {
	r.t.Helper()
	n, e := r.s.Put(api.Page{Tag: tag, Kids: kids, Data: data})
	if e != api.OK {
		r.t.Fatalf("a page with tag %d, %d kids, %d bytes: error %d", tag, len(kids), len(data), e)
	}
	return n
}

// fill puts pages until there is no space for another one.
func (r *run) fill() {
	for {
		if _, e := r.s.Put(api.Page{Tag: api.TagData}); e == api.ErrFull {
			return
		} else if e != api.OK {
			r.t.Fatalf("error %d", e)
		}
	}
}

// number is the data of an index page.
func number(n uint32) string {
	return string(binary.LittleEndian.AppendUint32(nil, n))
}

func (r *run) put(why, b string) uint32 {
	r.t.Helper()
	n, e := blob.Put(r.s, b)
	if e != api.OK || n == 0 {
		r.t.Fatalf("%s: Put of %d bytes: %d, error %d", why, len(b), n, e)
	}
	return n
}

func (r *run) drop(why string, n uint32) {
	r.t.Helper()
	if e := r.s.Drop(n); e != api.OK {
		r.t.Fatalf("%s: Drop %d: error %d", why, n, e)
	}
}

func (r *run) commit(why string, root uint32) {
	r.t.Helper()
	if e := r.s.Commit(root); e != api.OK {
		r.t.Fatalf("%s: Commit %d: error %d", why, root, e)
	}
}

func (r *run) audit(why string, roots ...uint32) {
	r.t.Helper()
	if e := r.s.Audit(roots); e != api.OK {
		r.t.Fatalf("%s: Audit %v: error %d", why, roots, e)
	}
}

// get reads a page that must be there.
func (r *run) get(why string, n uint32) api.Page {
	r.t.Helper()
	p, e := r.s.Get(n)
	if e != api.OK {
		r.t.Fatalf("%s: page %d: error %d", why, n, e)
	}
	return p
}

// cut are the bytes of the pages of a blob.
func cut(g api.Geo, b string) []string {
	var l []string
	for len(b) > room(g) {
		l, b = append(l, b[:room(g)]), b[room(g):]
	}
	if len(b) > 0 {
		l = append(l, b)
	}
	return l
}

// collect are the bytes that Parts yields.
func collect(s *space.Space, n uint32) []string {
	var l []string
	for part := range blob.Parts(s, n) {
		l = append(l, part)
	}
	return l
}

// want fails unless a page is the blob of these bytes, as the document says, and as the package tells.
func (r *run) want(why string, n uint32, b string) {
	r.t.Helper()
	p, l := r.get(why, n), cut(r.d.Geo(), b)
	if p.Tag != 6 || p.Data != number(uint32(len(b))) || len(p.Kids) != len(l) {
		r.t.Fatalf("%s: an index with tag %d, data %x, %d kids for %d bytes", why, p.Tag, p.Data, len(p.Kids), len(b))
	}
	for i, kid := range p.Kids {
		if q := r.get(why, kid); q.Tag != 7 || len(q.Kids) > 0 || q.Data != l[i] {
			r.t.Fatalf("%s: page %d of %d: tag %d, %d kids, %d bytes", why, i, len(l), q.Tag, len(q.Kids), len(q.Data))
		}
	}
	r.reads(why, n, b)
}

// reads fails unless the package tells these bytes, and changes nothing.
func (r *run) reads(why string, n uint32, b string) {
	r.t.Helper()
	before := r.state()
	if got, e := blob.Get(r.s, n); got != b || e != api.OK {
		r.t.Fatalf("%s: Get: %d bytes, error %d, want %d", why, len(got), e, len(b))
	}
	if size, e := blob.Size(r.s, n); size != len(b) || e != api.OK {
		r.t.Fatalf("%s: Size: %d, error %d, want %d", why, size, e, len(b))
	}
	if got, want := collect(r.s, n), cut(r.d.Geo(), b); !slices.Equal(got, want) {
		r.t.Fatalf("%s: Parts: %d of them, want %d", why, len(got), len(want))
	}
	if !slices.Equal(r.state(), before) {
		r.t.Fatalf("%s: something has changed", why)
	}
}

// noBlob fails unless Get and Size return these errors and nothing else, and Parts the first parts.
func (r *run) noBlob(why string, n uint32, get, size api.Errno, length int, parts ...string) {
	r.t.Helper()
	before := r.state()
	if b, e := blob.Get(r.s, n); b != "" || e != get {
		r.t.Errorf("%s: Get: %d bytes, error %d, want error %d", why, len(b), e, get)
	}
	if got, e := blob.Size(r.s, n); got != length || e != size {
		r.t.Errorf("%s: Size: %d, error %d, want %d, error %d", why, got, e, length, size)
	}
	if l := collect(r.s, n); !slices.Equal(l, parts) {
		r.t.Errorf("%s: Parts: %d of them, want %d", why, len(l), len(parts))
	}
	if !slices.Equal(r.state(), before) {
		r.t.Errorf("%s: something has changed", why)
	}
}

// fails fails unless Put returns the error, nothing else, and leaves the counts as they were.
func (r *run) fails(why, b string, want api.Errno) {
	r.t.Helper()
	before := r.counts()
	if n, e := blob.Put(r.s, b); n != 0 || e != want {
		r.t.Errorf("%s: Put of %d bytes: %d, error %d, want %d", why, len(b), n, e, want)
	}
	if !slices.Equal(r.counts(), before) {
		r.t.Errorf("%s: something was left", why)
	}
}

// counts are those of all blocks, and how many are free.
func (r *run) counts() []int {
	l := []int{r.s.Free()}
	for n := range r.d.Geo().Blocks {
		l = append(l, r.s.Count(uint32(n)))
	}
	return l
}

// state is all that must stay the same if nothing is written.
func (r *run) state() []int {
	return append(r.counts(), r.d.Ops())
}

// free are the blocks that can be taken, if nothing was committed.
func (r *run) free() []uint32 {
	var l []uint32
	for n := range uint32(r.d.Geo().Blocks) {
		if r.s.Count(n) == 0 {
			l = append(l, n)
		}
	}
	return l
}

// damage inverts a bit of a page.
func (r *run) damage(n uint32) {
	r.t.Helper()
	if r.d.Flush() != api.OK || r.d.Rot(int(n), 300, 1) != api.OK {
		r.t.Fatalf("no page %d", n)
	}
}

// three is a blob whose last one of three pages has room for more.
var three = strings.Repeat("a", 110) + strings.Repeat("b", 110) + strings.Repeat("c", 80)
