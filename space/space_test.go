package space_test

import (
	"fmt"
	"math"
	"slices"
	"strings"
	"testing"

	"shadowbook/api"
	"shadowbook/device"
	"shadowbook/space"
)

var (
	small = api.Geo{Size: 128, Blocks: 12}
	tiny  = api.Geo{Size: 128, Blocks: 8}
)

// geos are the ends of the limits, and those at which a page of counts more is needed.
var geos = []api.Geo{
	tiny, {Size: 128, Blocks: 56}, {Size: 128, Blocks: 57}, {Size: 128, Blocks: 1344}, {Size: 192, Blocks: 89},
	{Size: 256, Blocks: 4096}, {Size: 4096, Blocks: 8}, {Size: 4096, Blocks: 2040}, {Size: 4096, Blocks: 2041}, {Size: 4096, Blocks: 4096},
}

// longGeos are those whose pages of counts don't fit into a super.
var longGeos = []api.Geo{{Size: 128, Blocks: 1345}, {Size: 128, Blocks: 4096}, {Size: 192, Blocks: 4096}}

// notBlocks are numbers that no page has.
func notBlocks(g api.Geo) []uint32 {
	b := uint32(g.Blocks)
	return []uint32{0, 1, b, b + 1, b + 2, 2 * b, 1 << 16, 1<<16 + 4, 1 << 31, math.MaxUint32}
}

func leaf(data string) api.Page {
	return api.Page{Tag: api.TagLeaf, Data: data}
}

func inner(kids ...uint32) api.Page {
	return api.Page{Tag: api.TagInner, Kids: kids}
}

// P13.1
func TestFormat(t *testing.T) {
	for _, g := range geos {
		r := start(t, g)
		r.checkBytes("Format")
		if r.d.Image() != strings.Join(r.m.blocks, "") || len(r.d.Pending()) != 0 {
			t.Errorf("%v: not flushed", g)
		}
		if want := g.Blocks - 2 - pagesOf(g); r.s.Free() != want || r.s.Gen() != 1 || r.s.Root() != 0 {
			t.Errorf("%v: %d free, want %d, generation %d, root %d", g, r.s.Free(), want, r.s.Gen(), r.s.Root())
		}
		r.audit("Format")
		r.reopen("Format")
	}
}

// reopen opens the device, and goes on with that space.
func (r *run) reopen(why string) {
	r.t.Helper()
	s, e := space.Open(r.d)
	if e != api.OK || s == nil {
		r.t.Fatalf("%s: Open: error %d", why, e)
	}
	r.s = s
	r.m.abort()
	r.check(why + ": Open")
	r.checkBytes(why + ": Open")
}

// P13.1: whatever the device contained
func TestFormatUsed(t *testing.T) {
	old := superOf(small, 7, []uint32{5})
	for _, pending := range []bool{false, true} {
		d, _ := device.New(small)
		for n := range small.Blocks {
			d.Write(n, blockOf(128, 1, math.MaxUint64, old))
		}
		if !pending {
			d.Flush()
		}
		ops := d.Ops()
		s, e := space.Format(d)
		if e != api.OK {
			t.Fatalf("Format: error %d", e)
		}
		r := &run{t, d, s, fresh(small)}
		r.m.ops += ops
		for n := 3; n < small.Blocks; n++ {
			r.m.blocks[n] = blockOf(128, 1, math.MaxUint64, old)
		}
		r.check("used")
		r.checkBytes("used")
		r.reopen("used")
		r.put("used", leaf("a"))
	}
}

// notDevices are devices that were not made properly.
func notDevices() []*device.Device {
	d, _ := device.New(small)
	c := *d
	return []*device.Device{nil, {}, &c}
}

// P13.1: the errors of Format, in their order
func TestFormatErrors(t *testing.T) {
	for i, d := range notDevices() {
		if s, e := space.Format(d); s != nil || e != api.ErrNil {
			t.Errorf("no device %d: %v, error %d", i, s != nil, e)
		}
	}
	for _, g := range longGeos {
		d, _ := device.New(g)
		d.Fuse(0)
		if s, e := space.Format(d); s != nil || e != api.ErrLong || d.Ops() != 0 {
			t.Errorf("%v: %v, error %d, %d writes and flushes", g, s != nil, e, d.Ops())
		}
	}
}

// P13.1: the order in which Format writes, and the errors of a device whose fuse blows
func TestFormatFuse(t *testing.T) {
	g := api.Geo{Size: 128, Blocks: 113} // three pages of counts
	want := fresh(g).blocks
	for n := range 7 {
		d, _ := device.New(g)
		d.Write(9, want[2])
		d.Fuse(n)
		s, e := space.Format(d)
		if s != nil || e != api.ErrState || d.Ops() != n+1 {
			t.Fatalf("fuse %d: %v, error %d, %d writes and flushes", n, s != nil, e, d.Ops())
		}
		written := d.Pending()
		switch {
		case n <= 4:
			wantWrites(t, written[1:], want, 1, 2, 3, 4)
		case n == 5:
			wantWrites(t, written, want)
		default:
			wantWrites(t, written, want, 0)
		}
		if n <= 4 && len(written) != n+1 || n == 6 && len(written) != 1 {
			t.Errorf("fuse %d: %d pending writes", n, len(written))
		}
	}
}

// wantWrites fails unless each of the writes is to one of those blocks, all different, as the model has it.
func wantWrites(t *testing.T, l []api.Write, want []string, to ...int) {
	t.Helper()
	for _, w := range l {
		i := slices.Index(to, w.Block)
		if i < 0 || w.Bytes != want[w.Block] {
			t.Errorf("a write to block %d: %x", w.Block, w.Bytes)
			continue
		}
		to = slices.Delete(to, i, i+1)
	}
}

// P13.1
func TestOpen(t *testing.T) {
	for _, g := range geos {
		r := start(t, g)
		for i := range 3 {
			a := r.put("a", leaf(fmt.Sprint("a", i)))
			b := r.put("b", inner(a))
			r.commit("b", b)
			r.reopen("b")
			r.get("b", a)
			r.get("b", b)
			r.audit("b", b)
			r.drop("b", b)
			r.reopen("what was not committed")
			r.audit("b", b)
			r.drop("b", b)
			r.put("not committed", leaf("c"))
			r.reopen("what was not committed")
			r.drop("b", b)
			r.commit("nothing", 0)
			r.reopen("nothing")
			r.audit("nothing")
		}
	}
}

// P13.1: what is pending is read, and nothing is written
func TestOpenPending(t *testing.T) {
	r := start(t, small)
	a := r.put("a", leaf("a"))
	r.commit("a", a)
	d, _ := device.New(small)
	for n, block := range r.m.blocks {
		d.Write(n, block)
	}
	ops := d.Ops()
	s, e := space.Open(d)
	if e != api.OK || s.Root() != a || s.Audit([]uint32{a}) != api.OK {
		t.Errorf("Open: error %d", e)
	}
	if p, e := s.Get(a); e != api.OK || p.Data != "a" {
		t.Errorf("Get: %v, error %d", p, e)
	}
	if d.Ops() != ops || len(d.Pending()) != small.Blocks {
		t.Errorf("%d writes and flushes, %d pending", d.Ops()-ops, len(d.Pending()))
	}
}

// P13.1: Open goes on where the commit was, in either slot
func TestOpenSlots(t *testing.T) {
	for commits := range 4 {
		r := start(t, small)
		for range commits {
			r.commit("some", 0)
		}
		for range 4 {
			r.reopen("some")
			r.commit("one more", 0)
			r.checkBytes("one more")
		}
	}
}

// wantNoSpace fails unless such a device is corrupt.
func wantNoSpace(t *testing.T, why string, g api.Geo, blocks []string) {
	t.Helper()
	d, e := device.Load(g, strings.Join(blocks, ""))
	if e != api.OK {
		t.Fatalf("%s: Load: error %d", why, e)
	}
	if s, e := space.Open(d); s != nil || e != api.ErrCorrupt {
		t.Errorf("%s: Open: %v, error %d", why, s != nil, e)
	}
}

// P13.1: the errors of Open
func TestOpenErrors(t *testing.T) {
	for i, d := range notDevices() {
		if s, e := space.Open(d); s != nil || e != api.ErrNil {
			t.Errorf("no device %d: %v, error %d", i, s != nil, e)
		}
	}
	g := api.Geo{Size: 128, Blocks: 60} // two pages of counts
	m := fresh(g)
	change := func(n int, block string) []string {
		blocks := slices.Clone(m.blocks)
		blocks[n] = block
		return blocks
	}
	zeros := strings.Repeat("\x00", 128)
	wantNoSpace(t, "zero bytes", g, change(0, zeros))
	wantNoSpace(t, "a super that is none", g, change(0, blockOf(128, 1, 1, superOf(g, 1, m.pages))))
	for _, other := range []api.Geo{{Size: 128, Blocks: 61}, {Size: 128, Blocks: 59}, {Size: 128, Blocks: 112}, {Size: 128, Blocks: 58}} {
		blocks := slices.Concat(fresh(other).blocks, m.blocks)[:60]
		wantNoSpace(t, "another geometry", g, blocks)
		blocks[0], blocks[1] = m.blocks[0], blockOf(128, 1, 2, superOf(other, 0, m.pages))
		wantNoSpace(t, "another geometry, newer", g, blocks)
	}
	for _, at := range []int{2, 3} {
		data := m.blocks[at][12 : 12+112]
		if at == 3 {
			data = data[:8]
		}
		for why, block := range map[string]string{
			"zero bytes":            zeros,
			"a bit is inverted":     m.blocks[at][:127] + string([]byte{m.blocks[at][127] ^ 4}),
			"another tag":           blockOf(128, 4, 1, data),
			"a super":               blockOf(128, 1, 1, data),
			"an older generation":   blockOf(128, 2, 0, data),
			"a newer generation":    blockOf(128, 2, 2, data),
			"bytes are missing":     blockOf(128, 2, 1, data[:len(data)-2]),
			"another one":           m.blocks[5-at],
			"no bytes":              blockOf(128, 2, 1, ""),
			"a count of 0 at first": blockOf(128, 2, 1, "\x00\x00"+data[2:]) + "",
		} {
			if why == "a count of 0 at first" && at == 3 {
				continue // that is no count of a superblock
			}
			wantNoSpace(t, fmt.Sprint("page ", at, ": ", why), g, change(at, block))
		}
	}
	wantNoSpace(t, "too many bytes", g, change(3, blockOf(128, 2, 1, m.blocks[3][12:22])))
	wantNoSpace(t, "block 1 has two references", g, change(2, blockOf(128, 2, 1, "\x01\x00\x02\x00"+m.blocks[2][16:124])))
}

// P13.1: if the newer super is torn, what the older one names is there until the next commit writes it
func TestOpenOlder(t *testing.T) {
	r := start(t, small)
	a := r.put("a", leaf("a"))
	r.commit("a", a)
	older := slices.Clone(r.m.now)
	b := r.put("b", leaf("b"))
	r.commit("b", b)
	if r.d.Rot(0, 100, 1) != api.OK {
		t.Fatal("no bit")
	}
	s, e := space.Open(r.d)
	if e != api.OK || s.Gen() != 2 || s.Root() != a {
		t.Fatalf("Open: error %d", e)
	}
	for n, want := range older {
		if got := s.Count(uint32(n)); got != want {
			t.Errorf("Count %d: %d, want %d", n, got, want)
		}
	}
}

// P13.2
func TestPutAndGet(t *testing.T) {
	for _, g := range geos {
		r := start(t, g)
		var last uint32
		for i, data := range []string{"", "x", "\x00", strings.Repeat("y", g.Size-18), "a"} {
			if len(r.m.free()) <= pagesOf(g) {
				break
			}
			last = r.put("leaf", api.Page{Tag: byte(3 + i*63), Data: data})
			r.get("leaf", last)
		}
		r.check("leaves")
		r.checkBytes("leaves")
		r.commit("leaves", last)
		r.checkBytes("leaves")
	}
}

// P13.2: each tag
func TestTags(t *testing.T) {
	r := start(t, small)
	for tag := range 256 {
		n := r.put("tag", api.Page{Tag: byte(tag), Data: "t"})
		if (n == 0) != (tag < 3) {
			t.Fatalf("tag %d: block %d", tag, n)
		}
		if n > 0 {
			r.get("tag", n)
			r.drop("tag", n)
		}
	}
}

// P13.2: pages and kids in any number
func TestKids(t *testing.T) {
	r := start(t, api.Geo{Size: 4096, Blocks: 20})
	var kids []uint32
	for i := range 8 {
		kids = append(kids, r.put("kid", leaf(fmt.Sprint(i))))
	}
	for _, n := range []int{1, 2, 7, 1019} {
		p := api.Page{Tag: 9}
		for i := range n {
			p.Kids = append(p.Kids, kids[i*3%8])
		}
		p.Data = strings.Repeat("d", r.s.Room(n))
		r.get("kids", r.put("kids", p))
		p.Data += "d"
		if r.put("kids, a byte too many", p); n == 1019 {
			p.Data = ""
			p.Kids = append(p.Kids, kids[0])
			r.put("a kid too many", p)
		}
	}
	r.check("kids")
	r.checkBytes("kids")
}

// P13.2: Put keeps nothing of its argument, and Get returns new memory
func TestNewMemory(t *testing.T) {
	r := start(t, small)
	a, b := r.put("a", leaf("a")), r.put("b", leaf("b"))
	kids := []uint32{a, b, b, 77, 78}
	n := r.put("n", api.Page{Tag: 3, Kids: kids[:2], Data: "n"})
	if !slices.Equal(kids, []uint32{a, b, b, 77, 78}) {
		t.Errorf("changed: %v", kids)
	}
	kids[0], kids[1] = 99, 99
	p, _ := r.s.Get(n)
	all := p.Kids[:cap(p.Kids)]
	for i := range all {
		all[i] = 99
	}
	r.get("n", n)
	roots := []uint32{n, 0, 0, 77}
	counts, _ := r.s.Walk(roots[:2])
	for i := range counts[:cap(counts)] {
		counts[:cap(counts)][i] = 99
	}
	r.audit("n", n)
	if !slices.Equal(roots, []uint32{n, 0, 0, 77}) {
		t.Errorf("changed: %v", roots)
	}
	r.check("n")
}

// P13.2: the errors of Put, in their order
func TestPutErrors(t *testing.T) {
	r := start(t, tiny)
	a, b := r.put("a", leaf("a")), r.put("b", leaf("b"))
	r.drop("b", b)
	long := strings.Repeat("z", 111)
	many := slices.Repeat([]uint32{a}, 65536)
	full := func() {
		r.t.Helper()
		for _, n := range append(notBlocks(tiny), r.m.pages...) {
			r.putError("a kid that cannot be accessed", inner(n), api.ErrArg)
			r.putError("behind one without a count", api.Page{Tag: 4, Kids: []uint32{b, n}, Data: long}, api.ErrArg)
			r.putError("before one without a count", api.Page{Tag: 4, Kids: []uint32{a, n, b}}, api.ErrArg)
		}
		for tag := range byte(3) {
			r.putError("a tag too small", api.Page{Tag: tag, Data: "x"}, api.ErrArg)
			r.putError("a tag too small", api.Page{Tag: tag, Kids: []uint32{b}, Data: long}, api.ErrArg)
		}
		r.putError("too many kids", inner(many...), api.ErrArg)
		r.putError("too many kids", inner(append([]uint32{b}, many...)...), api.ErrArg)
		r.putError("no count", inner(b), api.ErrState)
		r.putError("no count", api.Page{Tag: 4, Kids: []uint32{a, b}, Data: long}, api.ErrState)
		r.putError("no count", api.Page{Tag: 4, Kids: append(slices.Clone(many[2:]), b)}, api.ErrState)
		r.putError("as many kids as there may be", inner(many[1:]...), api.ErrLong)
		r.putError("too long", leaf(long), api.ErrLong)
		r.putError("too long", api.Page{Tag: 4, Kids: []uint32{a}, Data: long[4:]}, api.ErrLong)
		r.putError("too long", inner(many[:28]...), api.ErrLong)
		r.check("errors")
	}
	full()
	for len(r.m.free()) > 1 {
		r.put("some", inner())
	}
	b = r.m.free()[0]
	full()
	r.putError("full", leaf(long[1:]), api.ErrFull)
	r.putError("full", inner(many[:27]...), api.ErrFull)
	r.d.Fuse(0)
	full()
	r.putError("full", leaf(""), api.ErrFull)
	r.checkBytes("errors")
}

func (r *run) putError(why string, p api.Page, want api.Errno) {
	r.t.Helper()
	if n, e := r.s.Put(p); n != 0 || e != want {
		r.t.Errorf("%s: Put: %d, error %d, want %d", why, n, e, want)
	}
}

// P13.2: with more pages of counts, more blocks are reserved
func TestFull(t *testing.T) {
	for _, g := range []api.Geo{tiny, {Size: 128, Blocks: 56}, {Size: 128, Blocks: 57}, {Size: 128, Blocks: 300}} {
		r := start(t, g)
		first := r.put("first", leaf("x"))
		root := first
		for len(r.m.free()) > pagesOf(g) {
			root = r.put("more", inner(root))
		}
		r.putError("full", leaf("y"), api.ErrFull)
		r.check("full")
		r.audit("full", root)
		r.commit("full", root)
		r.reopen("full")
		r.putError("full", leaf("y"), api.ErrFull)
		for range 3 {
			r.commit("still full", root)
			r.check("still full")
		}
		r.drop("all", root)
		r.putError("what was committed is held", leaf("y"), api.ErrFull)
		r.commit("nothing", 0)
		r.check("nothing")
		if r.s.Free() != g.Blocks-2-pagesOf(g) {
			t.Errorf("%v: %d free", g, r.s.Free())
		}
		r.put("again", leaf("y"))
	}
}

// P13.2: the error of a device whose fuse has blown
func TestPutFuse(t *testing.T) {
	r := start(t, small)
	r.d.Fuse(1)
	r.put("a", leaf("a"))
	r.putError("fuse", leaf("b"), api.ErrState)
}

// blocksThatAreNoPages are all that can be in a block but a page.
func blocksThatAreNoPages(g api.Geo) map[string]string {
	good := blockOf(g.Size, 4, 2, "\x01\x00\x03\x00\x00\x00abc")
	last := uint32(g.Blocks - 1)
	over := inner(last, last+1)
	return map[string]string{
		"zero bytes":          strings.Repeat("\x00", g.Size),
		"a bit is inverted":   good[:50] + "\x01" + good[51:],
		"not zero at its end": strings.Repeat("\x01", g.Size),
		"tag 0":               blockOf(g.Size, 0, 2, "\x00\x00"),
		"a super":             blockOf(g.Size, 1, 2, "\x00\x00abc"),
		"counts":              blockOf(g.Size, 2, 2, "\x00\x00abc"),
		"no data":             blockOf(g.Size, 4, 2, ""),
		"one byte":            blockOf(g.Size, 4, 2, "\x00"),
		"a kid is missing":    blockOf(g.Size, 4, 2, "\x01\x00"),
		"a byte is missing":   blockOf(g.Size, 4, 2, "\x01\x00\x03\x00\x00"),
		"many are missing":    blockOf(g.Size, 4, 2, "\xff\xff\x03\x00\x00\x00\x03\x00\x00\x00"),
		"kid 0":               blockOf(g.Size, 4, 2, pageOf(inner(0))),
		"kid 1":               blockOf(g.Size, 4, 2, pageOf(inner(last, 1))),
		"a kid too great":     blockOf(g.Size, 4, 2, pageOf(over)),
		"the greatest kid":    blockOf(g.Size, 4, 2, pageOf(inner(math.MaxUint32))),
	}
}

// P13.2: Get returns the error of what is in the block, and Drop and Walk do
func TestNoPage(t *testing.T) {
	for why, block := range blocksThatAreNoPages(small) {
		r := start(t, small)
		a := r.put("a", leaf("a"))
		b := r.put("b", inner(a))
		r.share("b", b)
		if r.d.Write(int(a), block) != api.OK {
			t.Fatal("no write")
		}
		if p, e := r.s.Get(a); e != api.ErrCorrupt || !same(p, api.Page{}) || p.Kids != nil {
			t.Errorf("%s: Get: %v, error %d", why, p, e)
		}
		r.get("what is above it", b)
		for _, roots := range [][]uint32{{a}, {b}, {b, b}, {0, b, a}, {a, 99}} {
			if counts, e := r.s.Walk(roots); e != api.ErrCorrupt || len(counts) != 0 {
				t.Errorf("%s: Walk %v: %v, error %d", why, roots, counts, e)
			}
			r.want("Audit", r.s.Audit(roots), api.ErrCorrupt)
		}
		r.share("a", a)
		r.want("one of two references is dropped", r.s.Drop(a), api.OK)
		r.want("the last one", r.s.Drop(a), api.ErrCorrupt)
		if r.s.Count(a) != 1 {
			t.Errorf("%s: %d references are left", why, r.s.Count(a))
		}
		r.want("one of two references above it", r.s.Drop(b), api.OK)
		r.want("the last one above it", r.s.Drop(b), api.ErrCorrupt)
	}
}

// P13.2: any tag from 3 on, any generation, and each kid that a device has
func TestAnyPage(t *testing.T) {
	r := start(t, small)
	a := r.put("a", leaf("a"))
	for tag := 3; tag < 256; tag += 36 {
		for _, gen := range []uint64{0, 1, 2, 3, math.MaxUint64} {
			want := api.Page{Tag: byte(tag), Kids: []uint32{2, 11, 2}, Data: "d"}
			r.d.Write(int(a), blockOf(128, byte(tag), gen, pageOf(want)))
			if p, e := r.s.Get(a); e != api.OK || !same(p, want) {
				t.Errorf("Get: %v, error %d, want %v", p, e, want)
			}
		}
	}
}

// P13.2: what cannot be accessed, and what is not in use
func TestAccess(t *testing.T) {
	for _, g := range []api.Geo{tiny, {Size: 128, Blocks: 300}, {Size: 256, Blocks: 4096}} {
		r := start(t, g)
		a := r.put("a", leaf("a"))
		wrong := func() {
			r.t.Helper()
			for _, n := range append(notBlocks(g), r.m.pages...) {
				for _, e := range []api.Errno{r.get("wrong", n), r.share("wrong", n), r.drop("wrong", n)} {
					r.want("wrong", e, api.ErrArg)
				}
				if n > 1 && n >= uint32(g.Blocks) && r.s.Count(n) != 0 {
					t.Errorf("Count %d: %d", n, r.s.Count(n))
				}
			}
			for _, n := range r.m.free() {
				for _, e := range []api.Errno{r.get("free", n), r.share("free", n), r.drop("free", n)} {
					r.want("free", e, api.ErrState)
				}
			}
			r.check("wrong")
		}
		wrong()
		r.commit("a", a)
		wrong() // the old pages of counts can be accessed now
		r.drop("a", a)
		for _, e := range []api.Errno{r.get("held", a), r.share("held", a), r.drop("held", a), r.commit("held", a)} {
			r.want("held, but not in use", e, api.ErrState)
		}
		r.check("held")
	}
}

// P13.2: from 1 to the greatest count, and back
func TestShare(t *testing.T) {
	r := start(t, tiny)
	a := r.put("a", leaf("a"))
	b := r.put("b", inner(a))
	for range 65534 {
		if e := r.s.Share(b); e != api.OK {
			t.Fatalf("Share: error %d", e)
		}
	}
	r.m.now[b] = 65535
	r.check("the greatest count")
	for range 3 {
		r.want("the greatest count", r.share("b", b), api.ErrLimit)
	}
	r.check("the greatest count")
	r.walk("the greatest count", slices.Repeat([]uint32{b}, 65535)...)
	r.audit("the greatest count", slices.Repeat([]uint32{b}, 65535)...)
	r.commit("the greatest count", b)
	r.reopen("the greatest count")
	for range 65534 {
		if e := r.s.Drop(b); e != api.OK {
			t.Fatalf("Drop: error %d", e)
		}
	}
	r.m.now[b] = 1
	r.check("one")
	r.drop("the last one", b)
	r.check("none")
	r.want("none", r.drop("none", b), api.ErrState)
}

// P13.2: pages whose kids are shared, or several times the same
func TestDrop(t *testing.T) {
	r := start(t, api.Geo{Size: 128, Blocks: 40})
	a, b := r.put("a", leaf("a")), r.put("b", leaf("b"))
	r.share("a", a)
	r.share("a", a)
	two := r.put("two", inner(a, b, a))
	r.audit("two", two, a)
	r.share("two", two)
	r.share("two", two)
	top := r.put("top", inner(two, two))
	other := r.put("other", inner(two, a))
	r.audit("all", top, other)
	r.drop("top", top)
	r.check("top")
	r.audit("other", other)
	top = r.put("top again", leaf("t"))
	r.drop("other", other)
	r.check("other")
	r.audit("top", top)
	r.drop("top", top)
	r.check("nothing")
	r.audit("nothing")
}

// P13.2: as deep as a device has blocks, and as wide as a page is
func TestDropMany(t *testing.T) {
	r := start(t, api.Geo{Size: 256, Blocks: 4096})
	n := r.put("first", leaf("x"))
	for range 1000 {
		r.share("more", n)
		n = r.put("more", inner(n, n))
	}
	r.audit("deep", n)
	r.check("deep")
	r.drop("deep", n)
	r.check("nothing")
	n = r.put("first", leaf("x"))
	for range 4000 - 1 {
		got, e := r.s.Put(inner(n))
		if e != api.OK {
			t.Fatalf("Put: error %d", e)
		}
		n = got
	}
	r.want("deeper", r.s.Audit([]uint32{n}), api.OK)
	r.want("deeper", r.s.Drop(n), api.OK)
	if want := 4096 - 2 - 35; r.s.Free() != want {
		t.Errorf("%d free, want %d", r.s.Free(), want)
	}
	r.want("nothing", r.s.Audit(nil), api.OK)
}

// P13.2: the errors of kids whose references were not those of the page
func TestDropErrors(t *testing.T) {
	r := start(t, small)
	a := r.put("a", leaf("a"))
	b := r.put("b", inner(a, a))
	r.want("a kid without a count", r.s.Drop(b), api.ErrState)
	r = start(t, small)
	a = r.put("a", leaf("a"))
	b = r.put("b", inner(a))
	r.drop("a", a)
	r.want("a page without a count", r.s.Drop(a), api.ErrState)
	r.want("a kid without a count", r.s.Drop(b), api.ErrState)
	r = start(t, small)
	a = r.put("a", leaf("a"))
	r.d.Write(int(a), blockOf(128, 3, 2, pageOf(inner(2))))
	r.want("a kid that is a page of counts", r.s.Drop(a), api.ErrArg)
}

// P13.3
func TestRoom(t *testing.T) {
	for _, g := range geos {
		s := start(t, g).s
		all := g.Size - 16 - 2
		for kids := range all/4 + 1 {
			if got := s.Room(kids); got != all-4*kids {
				t.Errorf("%v: Room %d: %d, want %d", g, kids, got, all-4*kids)
			}
		}
		for _, kids := range []int{all/4 + 1, all/4 + 2, 65535, 65536, 1 << 30, 1 << 62, 1<<62 + 1, math.MaxInt, -1, -2, -1 << 62, math.MinInt} {
			if got := s.Room(kids); got != 0 {
				t.Errorf("%v: Room %d: %d, want 0", g, kids, got)
			}
		}
	}
}

// P13.2: an invalid space
func TestInvalid(t *testing.T) {
	r := start(t, small)
	a := r.put("a", leaf("a"))
	r.mark("a")
	copied := *r.s
	for i, s := range []*space.Space{nil, {}, &copied} {
		for _, n := range append(notBlocks(small), a) {
			p, e := s.Get(n)
			counts, w := s.Walk([]uint32{n})
			if e != api.ErrNil || !same(p, api.Page{}) || w != api.ErrNil || len(counts) != 0 {
				t.Errorf("invalid %d: Get: %v, error %d; Walk: %v, error %d", i, p, e, counts, w)
			}
			for j, e := range []api.Errno{s.Share(n), s.Drop(n), s.Commit(n), s.Audit([]uint32{n})} {
				if e != api.ErrNil {
					t.Errorf("invalid %d: call %d: error %d", i, j, e)
				}
			}
			if s.Count(n) != 0 || s.Room(int(n)) != 0 {
				t.Errorf("invalid %d: Count %d, Room %d", i, s.Count(n), s.Room(int(n)))
			}
		}
		for _, p := range []api.Page{{}, leaf("x"), inner(0), inner(a)} {
			if n, e := s.Put(p); n != 0 || e != api.ErrNil {
				t.Errorf("invalid %d: Put: %d, error %d", i, n, e)
			}
		}
		for j, e := range []api.Errno{s.Abort(), s.Mark(), s.Back(), s.Done(), s.Audit(nil)} {
			if e != api.ErrNil {
				t.Errorf("invalid %d: call %d: error %d", i, j, e)
			}
		}
		if s.Free() != 0 || s.Root() != 0 || s.Gen() != 0 {
			t.Errorf("invalid %d: %d, %d, %d", i, s.Free(), s.Root(), s.Gen())
		}
	}
	r.check("after invalid spaces")
	r.back("the mark is still there")
}
