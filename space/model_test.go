package space_test

import (
	"encoding/binary"
	"hash/crc32"
	"slices"
	"strings"
	"testing"

	"shadowbook/api"
	"shadowbook/device"
	"shadowbook/space"
)

// model is a space, and all that its device was written, without the layers.
type model struct {
	g      api.Geo
	gen    uint64
	root   uint32
	pages  []uint32 // of the counts that are held
	slot   int
	held   []int
	now    []int
	mark   []int // nil, if there is none
	kept   map[uint32]api.Page
	blocks []string
	ops    int
}

// fresh is the model of a space after Format.
func fresh(g api.Geo) *model {
	m := &model{g: g, gen: 1, now: make([]int, g.Blocks), kept: map[uint32]api.Page{}}
	for range g.Blocks {
		m.blocks = append(m.blocks, strings.Repeat("\x00", g.Size))
	}
	m.now[0], m.now[1] = 1, 1
	for i := range pagesOf(g) {
		m.pages = append(m.pages, uint32(2+i))
		m.now[2+i] = 1
	}
	m.save()
	m.held = slices.Clone(m.now)
	m.ops++ // the zero bytes
	return m
}

// save writes what a commit writes.
func (m *model) save() {
	perPage := (m.g.Size - 16) / 2
	for i, n := range m.pages {
		var data []byte
		for _, count := range m.now[i*perPage : min((i+1)*perPage, m.g.Blocks)] {
			data = binary.LittleEndian.AppendUint16(data, uint16(count))
		}
		m.blocks[n] = blockOf(m.g.Size, 2, m.gen, string(data))
	}
	m.blocks[m.slot] = blockOf(m.g.Size, 1, m.gen, superOf(m.g, m.root, m.pages))
	m.ops += len(m.pages) + 3
}

// pagesOf is how many pages the counts take.
func pagesOf(g api.Geo) int {
	n := 0
	for n*(g.Size-16) < 2*g.Blocks {
		n++
	}
	return n
}

func superOf(g api.Geo, root uint32, pages []uint32) string {
	var b []byte
	for _, v := range []uint32{uint32(g.Size), uint32(g.Blocks), root} {
		b = binary.LittleEndian.AppendUint32(b, v)
	}
	b = binary.LittleEndian.AppendUint16(b, uint16(len(pages)))
	for _, n := range pages {
		b = binary.LittleEndian.AppendUint32(b, n)
	}
	return string(b)
}

func pageOf(p api.Page) string {
	b := binary.LittleEndian.AppendUint16(nil, uint16(len(p.Kids)))
	for _, kid := range p.Kids {
		b = binary.LittleEndian.AppendUint32(b, kid)
	}
	return string(b) + p.Data
}

func blockOf(size int, tag byte, gen uint64, data string) string {
	b := []byte{tag, 0, byte(len(data)), byte(len(data) >> 8)}
	b = binary.LittleEndian.AppendUint64(b, gen)
	b = append(b, data...)
	b = append(b, make([]byte, size-4-len(b))...)
	return string(binary.LittleEndian.AppendUint32(b, crc32.Checksum(b, crc32.MakeTable(crc32.Castagnoli))))
}

func (m *model) accessible(n uint32) bool {
	return n >= 2 && int64(n) < int64(m.g.Blocks) && !slices.Contains(m.pages, n)
}

func (m *model) free() []uint32 {
	var free []uint32
	for n := 2; n < m.g.Blocks; n++ {
		if m.now[n] == 0 && m.held[n] == 0 && (m.mark == nil || m.mark[n] == 0) {
			free = append(free, uint32(n))
		}
	}
	return free
}

func (m *model) put(p api.Page) (uint32, api.Errno) {
	wrong := p.Tag < 3 || len(p.Kids) > 65535
	unused := false
	for _, kid := range p.Kids {
		if !m.accessible(kid) {
			wrong = true
		} else if m.now[kid] == 0 {
			unused = true
		}
	}
	free := m.free()
	switch {
	case wrong:
		return 0, api.ErrArg
	case unused:
		return 0, api.ErrState
	case 2+4*len(p.Kids)+len(p.Data) > m.g.Size-16:
		return 0, api.ErrLong
	case len(free) <= len(m.pages):
		return 0, api.ErrFull
	}
	n := free[0]
	m.now[n] = 1
	m.kept[n] = api.Page{Tag: p.Tag, Kids: slices.Clone(p.Kids), Data: p.Data}
	m.blocks[n] = blockOf(m.g.Size, p.Tag, m.gen+1, pageOf(p))
	m.ops++
	return n, api.OK
}

func (m *model) get(n uint32) (api.Page, api.Errno) {
	switch {
	case !m.accessible(n):
		return api.Page{}, api.ErrArg
	case m.now[n] == 0:
		return api.Page{}, api.ErrState
	}
	return m.kept[n], api.OK
}

func (m *model) share(n uint32) api.Errno {
	if _, e := m.get(n); e != api.OK {
		return e
	}
	if m.now[n] == 65535 {
		return api.ErrLimit
	}
	m.now[n]++
	return api.OK
}

func (m *model) drop(n uint32) api.Errno {
	p, e := m.get(n)
	if e != api.OK {
		return e
	}
	if m.now[n]--; m.now[n] > 0 {
		return api.OK
	}
	for _, kid := range p.Kids {
		if e := m.drop(kid); e != api.OK {
			return e
		}
	}
	return api.OK
}

func (m *model) commit(root uint32) api.Errno {
	if root != 0 {
		if _, e := m.get(root); e != api.OK {
			return e
		}
	}
	free := m.free()
	if len(free) < len(m.pages) {
		return api.ErrFull
	}
	for _, n := range m.pages {
		m.now[n] = 0
	}
	m.pages = free[:len(m.pages)]
	for _, n := range m.pages {
		m.now[n] = 1
	}
	m.gen, m.root, m.slot = m.gen+1, root, 1-m.slot
	m.save()
	m.held, m.mark = slices.Clone(m.now), nil
	return api.OK
}

func (m *model) abort() {
	m.now, m.mark = slices.Clone(m.held), nil
}

func (m *model) setMark() api.Errno {
	if m.mark != nil {
		return api.ErrState
	}
	m.mark = slices.Clone(m.now)
	return api.OK
}

func (m *model) unmark(back bool) api.Errno {
	if m.mark == nil {
		return api.ErrState
	}
	if back {
		m.now = m.mark
	}
	m.mark = nil
	return api.OK
}

// walk counts references level by level.
func (m *model) walk(roots []uint32) []int {
	counts, seen := make([]int, m.g.Blocks), map[uint32]bool{0: true}
	counts[0], counts[1] = 1, 1
	for _, n := range m.pages {
		counts[n] = 1
	}
	for len(roots) > 0 {
		var below []uint32
		for _, n := range roots {
			if n == 0 {
				continue
			}
			counts[n]++
			if !seen[n] {
				seen[n] = true
				below = append(below, m.kept[n].Kids...)
			}
		}
		roots = below
	}
	return counts
}

// run is a space, its device, and its model.
type run struct {
	t *testing.T
	d *device.Device
	s *space.Space
	m *model
}

// start formats a device of zero bytes.
func start(t *testing.T, g api.Geo) *run {
	t.Helper()
	d, e := device.New(g)
	if e != api.OK {
		t.Fatalf("%v: error %d", g, e)
	}
	s, e := space.Format(d)
	if e != api.OK || s == nil {
		t.Fatalf("Format %v: error %d", g, e)
	}
	r := &run{t, d, s, fresh(g)}
	r.check("Format")
	return r
}

// check holds all that can be seen of a space against its model.
func (r *run) check(why string) {
	r.t.Helper()
	if r.s.Gen() != r.m.gen || r.s.Root() != r.m.root || r.s.Free() != len(r.m.free()) {
		r.t.Fatalf("%s: generation %d, root %d, free %d, want %d, %d, %d", why, r.s.Gen(), r.s.Root(), r.s.Free(), r.m.gen, r.m.root, len(r.m.free()))
	}
	for n, want := range r.m.now {
		if got := r.s.Count(uint32(n)); got != want {
			r.t.Fatalf("%s: Count %d: %d, want %d", why, n, got, want)
		}
	}
	if r.d.Ops() != r.m.ops {
		r.t.Fatalf("%s: %d writes and flushes, want %d", why, r.d.Ops(), r.m.ops)
	}
}

// checkBytes holds all blocks of the device against the model.
func (r *run) checkBytes(why string) {
	r.t.Helper()
	for n, want := range r.m.blocks {
		if got, e := r.d.Read(n); e != api.OK || got != want {
			r.t.Fatalf("%s: block %d: %x, error %d, want %x", why, n, got, e, want)
		}
	}
}

func (r *run) put(why string, p api.Page) uint32 {
	r.t.Helper()
	n, _ := r.tryPut(why, p)
	return n
}

func (r *run) tryPut(why string, p api.Page) (uint32, api.Errno) {
	r.t.Helper()
	want, wantE := r.m.put(p)
	got, e := r.s.Put(p)
	if got != want || e != wantE {
		r.t.Fatalf("%s: Put: %d, error %d, want %d, error %d", why, got, e, want, wantE)
	}
	return got, e
}

func (r *run) get(why string, n uint32) api.Errno {
	r.t.Helper()
	want, wantE := r.m.get(n)
	got, e := r.s.Get(n)
	if e != wantE || !same(got, want) {
		r.t.Fatalf("%s: Get %d: %v, error %d, want %v, error %d", why, n, got, e, want, wantE)
	}
	return e
}

func (r *run) share(why string, n uint32) api.Errno {
	r.t.Helper()
	return r.want(why+": Share", r.s.Share(n), r.m.share(n))
}

func (r *run) drop(why string, n uint32) api.Errno {
	r.t.Helper()
	return r.want(why+": Drop", r.s.Drop(n), r.m.drop(n))
}

func (r *run) commit(why string, root uint32) api.Errno {
	r.t.Helper()
	return r.want(why+": Commit", r.s.Commit(root), r.m.commit(root))
}

func (r *run) abort(why string) {
	r.t.Helper()
	r.m.abort()
	r.want(why+": Abort", r.s.Abort(), api.OK)
}

func (r *run) mark(why string) api.Errno {
	r.t.Helper()
	return r.want(why+": Mark", r.s.Mark(), r.m.setMark())
}

func (r *run) back(why string) api.Errno {
	r.t.Helper()
	return r.want(why+": Back", r.s.Back(), r.m.unmark(true))
}

func (r *run) done(why string) api.Errno {
	r.t.Helper()
	return r.want(why+": Done", r.s.Done(), r.m.unmark(false))
}

// walk holds Walk and Audit against the model; it tells whether Audit found nothing.
func (r *run) walk(why string, roots ...uint32) bool {
	r.t.Helper()
	want := r.m.walk(roots)
	got, e := r.s.Walk(roots)
	if e != api.OK || !slices.Equal(got, want) {
		r.t.Fatalf("%s: Walk %v: %v, error %d, want %v", why, roots, got, e, want)
	}
	wantE := api.ErrState
	if slices.Equal(want, r.m.now) {
		wantE = api.OK
	}
	return r.want(why+": Audit", r.s.Audit(roots), wantE) == api.OK
}

// audit fails unless each count is that of the references from the roots.
func (r *run) audit(why string, roots ...uint32) {
	r.t.Helper()
	if !r.walk(why, roots...) {
		r.t.Fatalf("%s: Audit %v finds something", why, roots)
	}
}

func (r *run) want(why string, got, want api.Errno) api.Errno {
	r.t.Helper()
	if got != want {
		r.t.Fatalf("%s: error %d, want %d", why, got, want)
	}
	return got
}

func same(a, b api.Page) bool {
	return a.Tag == b.Tag && slices.Equal(a.Kids, b.Kids) && a.Data == b.Data
}
