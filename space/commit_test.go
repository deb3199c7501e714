package space_test

import (
	"fmt"
	"math"
	"math/rand/v2"
	"slices"
	"strings"
	"testing"

	"shadowbook/api"
	"shadowbook/device"
	"shadowbook/space"
)

// P13.4: the chapter's examples
func TestExamples(t *testing.T) {
	r := start(t, small)
	a := r.put("a page", leaf("a page"))
	r.commit("a page", a)
	s, e := space.Open(r.d)
	if e != api.OK {
		t.Fatalf("Open: error %d", e)
	}
	if p, e := s.Get(a); e != api.OK || !same(p, leaf("a page")) {
		t.Errorf("Get: %v, error %d", p, e)
	}
	was := r.s.Free()
	r.drop("put and dropped", r.put("put and dropped", leaf("b")))
	if r.s.Free() != was {
		t.Errorf("%d free, before it was %d", r.s.Free(), was)
	}
}

// P13.4: which blocks a commit takes, and which can be taken after it
func TestCommit(t *testing.T) {
	for _, g := range []api.Geo{tiny, small, {Size: 128, Blocks: 113}, {Size: 4096, Blocks: 2041}} {
		r := start(t, g)
		a := r.put("a", leaf("a"))
		for i, root := range []uint32{a, 0, a, a} {
			r.commit("a", root)
			r.check("a")
			r.checkBytes("a")
			if len(r.d.Pending()) != 0 {
				t.Errorf("%v: commit %d is not flushed", g, i)
			}
			r.get("a", a)
			r.audit("a", a)
		}
		r.drop("a", a)
		r.commit("nothing", 0)
		r.check("nothing")
		r.audit("nothing")
	}
}

// P13.4: the errors of Commit, in their order
func TestCommitErrors(t *testing.T) {
	r := start(t, small)
	a, b := r.put("a", leaf("a")), r.put("b", leaf("b"))
	r.drop("b", b)
	r.mark("a")
	for range 2 {
		for _, n := range append(notBlocks(small)[1:], r.m.pages...) {
			r.want("wrong", r.commit("wrong", n), api.ErrArg)
		}
		for _, n := range r.m.free() {
			r.want("free", r.commit("free", n), api.ErrState)
		}
		r.check("wrong")
		r.d.Fuse(0)
	}
	r.d.Fuse(-1)
	r.back("the mark is still there")
	r.commit("a", a)
	r.check("a")
}

// crafted is a device on which everything is in use but as many blocks as are given.
func crafted(t *testing.T, g api.Geo, gen uint64, free ...int) *run {
	t.Helper()
	m := fresh(g)
	for n := range m.now {
		m.now[n] = 1
	}
	for _, n := range free {
		m.now[n] = 0
	}
	m.gen = gen
	m.save()
	m.held, m.ops = slices.Clone(m.now), 0
	d, e := device.Load(g, strings.Join(m.blocks, ""))
	if e != api.OK {
		t.Fatalf("Load: error %d", e)
	}
	s, e := space.Open(d)
	if e != api.OK {
		t.Fatalf("Open: error %d", e)
	}
	r := &run{t, d, s, m}
	r.check("crafted")
	return r
}

// P13.4: ErrFull, which there is only on a device that no space has made so
func TestCommitFull(t *testing.T) {
	g := api.Geo{Size: 128, Blocks: 60} // two pages of counts
	for _, free := range [][]int{nil, {59}, {30}} {
		r := crafted(t, g, 5, free...)
		r.mark("full")
		r.d.Fuse(0)
		for _, root := range []uint32{0, 10} {
			r.want("full", r.commit("full", root), api.ErrFull)
		}
		for _, n := range []uint32{1, 2, 3, 60} {
			r.want("wrong", r.commit("wrong", n), api.ErrArg)
		}
		if len(free) > 0 {
			r.want("free", r.commit("free", uint32(free[0])), api.ErrState)
		}
		r.check("full")
		r.putError("full", leaf("x"), api.ErrFull)
		r.back("the mark is still there")
	}
	for _, free := range [][]int{{7, 59}, {7, 20, 59}} {
		r := crafted(t, g, 5, free...)
		r.want("just enough", r.commit("just enough", 10), api.OK)
		r.check("just enough")
		r.checkBytes("just enough")
		r.reopen("just enough")
	}
}

// P13.4: what is marked is not taken for the pages of counts, either
func TestCommitMarked(t *testing.T) {
	r := crafted(t, api.Geo{Size: 128, Blocks: 60}, 5, 10, 11, 12, 13)
	if n := r.put("a", leaf("a")); n != 10 {
		t.Fatalf("block %d", n)
	}
	r.put("b", leaf("b"))
	r.mark("a, b")
	r.drop("a", 10)
	r.drop("b", 11)
	r.commit("nothing", 0)
	if r.check("marked"); !slices.Equal(r.m.pages, []uint32{12, 13}) {
		t.Errorf("pages %v", r.m.pages)
	}
	r.checkBytes("marked")
}

// P13.4: the greatest generation that there is has no next one
func TestLastGeneration(t *testing.T) {
	r := crafted(t, small, math.MaxUint64-1, 8, 9, 10)
	a := r.put("a", leaf("a"))
	r.commit("the last one", a)
	r.reopen("the last one")
	if r.m.gen != math.MaxUint64 {
		t.Fatalf("generation %d", r.m.gen)
	}
	r.want("no next one", r.s.Commit(a), api.ErrLimit)
	r.want("no next one", r.s.Commit(0), api.ErrLimit)
	r.putError("no next one", leaf("b"), api.ErrLimit)
	r.get("the last one", a)
	r.check("the last one")
	r.checkBytes("the last one")
}

// P13.4: the order in which Commit writes
func TestCommitFuse(t *testing.T) {
	g := api.Geo{Size: 128, Blocks: 113} // three pages of counts
	for n := range 6 {
		r := start(t, g)
		a := r.put("a", leaf("a"))
		r.m.commit(a)
		r.d.Fuse(n)
		if e := r.s.Commit(a); e != api.ErrState {
			t.Fatalf("fuse %d: error %d", n, e)
		}
		pending := r.d.Pending()
		pages := []int{int(r.m.pages[0]), int(r.m.pages[1]), int(r.m.pages[2])}
		want := []int{1 + n, 1 + n, 1 + n, 1 + n, 0, 1}[n] // with the page a, until the first flush
		if n < 4 {
			wantWrites(t, pending[1:], r.m.blocks, pages...)
		} else {
			wantWrites(t, pending, r.m.blocks, 1)
		}
		if len(pending) != want {
			t.Errorf("fuse %d: %d pending writes, want %d", n, len(pending), want)
		}
	}
}

// P13.4
func TestMark(t *testing.T) {
	r := start(t, small)
	none := func(why string) {
		r.t.Helper()
		r.want(why, r.back(why), api.ErrState)
		r.want(why, r.done(why), api.ErrState)
		r.check(why)
	}
	none("at first")
	a := r.put("a", leaf("a"))
	b := r.put("b", inner(a))
	r.mark("b")
	r.want("a second mark", r.mark("b"), api.ErrState)
	r.drop("b", b)
	c := r.put("c", leaf("c")) // a and b are marked
	r.want("a second mark", r.mark("c"), api.ErrState)
	r.check("c")
	r.back("b")
	r.check("b")
	r.audit("b", b)
	r.get("b", b)
	r.get("a", a)
	if r.s.Count(c) != 0 {
		t.Errorf("c: %d references", r.s.Count(c))
	}
	none("after Back")
	r.mark("b")
	r.drop("b", b)
	r.check("the mark is kept")
	c = r.put("c", leaf("c"))
	r.done("c")
	r.check("Done")
	r.audit("c", c)
	none("after Done")
	if d := r.put("what was marked is free", leaf("d")); d != a && d != b {
		t.Errorf("block %d", d)
	}
}

// P13.4: with a mark and what is held, each of the three counts forbids blocks
func TestThreeCounts(t *testing.T) {
	r := start(t, small)
	held := r.put("held", leaf("held"))
	r.commit("held", held)
	r.drop("held", held)
	marked := r.put("marked", leaf("marked"))
	r.mark("marked")
	r.drop("marked", marked)
	now := r.put("now", leaf("now"))
	r.check("all three")
	if held == marked || marked == now || held == now || r.s.Free() != 12-2-1-3 {
		t.Errorf("%d, %d, %d, %d free", held, marked, now, r.s.Free())
	}
	for len(r.m.free()) > 1 {
		r.put("more", leaf("more"))
	}
	r.putError("full", leaf("x"), api.ErrFull)
	r.back("marked")
	r.check("marked")
	r.get("marked", marked)
	r.drop("marked", marked)
	r.mark("nothing")
	if n := r.put("marked is free", leaf("x")); n != marked {
		t.Errorf("block %d, want %d", n, marked)
	}
	r.done("one")
	r.abort("held")
	r.check("held")
	r.get("held", held)
	r.audit("held", held)
}

// P13.4: Commit and Abort remove the mark
func TestMarkIsRemoved(t *testing.T) {
	for _, commit := range []bool{false, true} {
		r := start(t, small)
		a := r.put("a", leaf("a"))
		r.mark("a")
		r.drop("a", a)
		if commit {
			r.commit("nothing", 0)
		} else {
			r.abort("nothing")
		}
		r.check("removed")
		r.want("Back", r.back("removed"), api.ErrState)
		r.want("Done", r.done("removed"), api.ErrState)
		r.put("what was marked is free", leaf("b"))
		r.want("Mark", r.mark("another one"), api.OK)
	}
}

// P13.4
func TestAbort(t *testing.T) {
	r := start(t, small)
	r.abort("nothing")
	r.check("nothing")
	a := r.put("a", leaf("a"))
	r.abort("a")
	r.check("a")
	b := r.put("b", leaf("b"))
	if a != b {
		t.Errorf("%d, %d", a, b)
	}
	top := r.put("top", inner(b))
	r.commit("top", top)
	for range 2 {
		r.share("b", b)
		r.drop("top", top)
		r.put("c", leaf("c"))
		r.abort("top")
		r.check("top")
		r.audit("top", top)
	}
	r.checkBytes("top")
}

// P13.4: the errors of Walk are those of Get
func TestWalkErrors(t *testing.T) {
	r := start(t, small)
	a := r.put("a", leaf("a"))
	b := r.put("b", leaf("b"))
	r.drop("b", b)
	wrong := func(roots []uint32, want api.Errno) {
		t.Helper()
		if counts, e := r.s.Walk(roots); e != want || len(counts) != 0 {
			t.Errorf("Walk %v: %v, error %d, want %d", roots, counts, e, want)
		}
		r.want("Audit", r.s.Audit(roots), want)
	}
	for _, n := range append(notBlocks(small)[1:], r.m.pages...) {
		wrong([]uint32{n}, api.ErrArg)
		wrong([]uint32{a, 0, n, b}, api.ErrArg)
		wrong([]uint32{b, n}, api.ErrState)
	}
	wrong([]uint32{b}, api.ErrState)
	wrong([]uint32{a, a, b}, api.ErrState)
	c := r.put("c", inner(a))
	r.drop("a", a)
	wrong([]uint32{c}, api.ErrState)
	r.d.Write(int(c), blockOf(128, 3, 2, pageOf(inner(2))))
	wrong([]uint32{c}, api.ErrArg)
}

// P13.4: Audit finds a count that is not that of the references
func TestAudit(t *testing.T) {
	r := start(t, small)
	r.audit("nothing", 0, 0)
	a := r.put("a", leaf("a"))
	b := r.put("b", inner(a))
	r.audit("b", b, 0)
	for _, roots := range [][]uint32{nil, {0}, {a}, {b, b}, {a, b}, {b, a}} {
		if r.walk("other roots", roots...) {
			t.Errorf("Audit %v finds nothing", roots)
		}
	}
	r.share("a", a)
	if r.walk("shared", b) {
		t.Error("Audit does not find what was shared")
	}
	r.audit("shared", b, a)
	r.audit("shared", 0, a, b)
	c := r.put("c", inner(a, a)) // with one reference for two
	if r.walk("c", b, c) {
		t.Error("Audit does not find a reference too many")
	}
}

// P13.2, P13.3, P13.4: calls in any order, also such as use references that they don't have
func TestManyCalls(t *testing.T) {
	seen := map[string]int{}
	for _, g := range []api.Geo{tiny, small, {Size: 128, Blocks: 30}, {Size: 128, Blocks: 70}, {Size: 4096, Blocks: 40}} {
		rnd := rand.New(rand.NewPCG(13, uint64(g.Blocks)))
		for range 10 {
			r := start(t, g)
			for range 300 {
				why, e := r.any(rnd)
				seen[fmt.Sprint(why, " ", e)]++
				r.check(why)
			}
			r.checkBytes("many")
		}
	}
	for _, want := range []string{"Put 0", "Put 2", "Put 3", "Put 8", "Put 9", "Get 0", "Get 2", "Get 8", "Share 0", "Share 2", "Share 8", "Drop 0", "Drop 2", "Drop 8",
		"Commit 0", "Commit 2", "Commit 8", "Abort 0", "Mark 0", "Mark 8", "Back 0", "Back 8", "Done 0", "Done 8", "Open 0"} {
		if seen[want] < 10 {
			t.Errorf("%s: %d times", want, seen[want])
		}
	}
}

// any does something, and tells what, and with which error.
func (r *run) any(rnd *rand.Rand) (string, api.Errno) {
	n := rnd.Uint32N(uint32(r.m.g.Blocks + 2))
	switch k := rnd.IntN(40); {
	case k < 14:
		return "Put", r.putAny(rnd)
	case k < 17:
		return "Get", r.get("many", n)
	case k < 21:
		return "Share", r.share("many", n)
	case k < 29:
		return "Drop", r.dropAny(n)
	case k < 32:
		return "Commit", r.commit("many", n*rnd.Uint32N(2))
	case k < 33:
		r.abort("many")
		return "Abort", api.OK
	case k < 35:
		return "Mark", r.mark("many")
	case k < 37:
		return "Back", r.back("many")
	case k < 39:
		return "Done", r.done("many")
	}
	r.reopen("many")
	return "Open", api.OK
}

func (r *run) putAny(rnd *rand.Rand) api.Errno {
	p := api.Page{Tag: byte(2 + min(rnd.IntN(12), 6)), Data: strings.Repeat("p", rnd.IntN(r.m.g.Size-13))}
	for range rnd.IntN(4) {
		kid := rnd.Uint32N(uint32(r.m.g.Blocks))
		for range 20 {
			if r.m.accessible(kid) && r.m.now[kid] > 0 {
				break
			}
			kid = rnd.Uint32N(uint32(r.m.g.Blocks))
		}
		p.Kids = append(p.Kids, kid)
	}
	_, e := r.tryPut("many", p)
	return e
}

// dropAny drops a page only if the references of all that goes with it are there: otherwise it is not specified what happens.
func (r *run) dropAny(n uint32) api.Errno {
	was := slices.Clone(r.m.now)
	e := r.m.drop(n)
	now := r.m.now
	r.m.now = was
	if e != api.OK && r.m.accessible(n) && was[n] > 0 {
		return e + 1000
	}
	if got := r.s.Drop(n); got != e {
		r.t.Fatalf("many: Drop %d: error %d, want %d", n, got, e)
	}
	if e == api.OK {
		r.m.now = now
	}
	return e
}
