package space_test

import (
	"fmt"
	"math/rand/v2"
	"slices"
	"strings"
	"testing"

	"shadowbook/api"
	"shadowbook/device"
	"shadowbook/space"
)

// user has references, and uses none but these.
type user struct {
	*run
	owned  []uint32
	marked []uint32
	last   kept
}

// kept is what was committed: the references of the user, and all blocks in use.
type kept struct {
	gen    uint64
	root   uint32
	owned  []uint32
	counts []int
	blocks map[int]string
	pages  map[uint32]api.Page
}

// keep notes what is committed now.
func (u *user) keep() kept {
	k := kept{u.m.gen, u.m.root, slices.Clone(u.owned), slices.Clone(u.m.now), map[int]string{u.m.slot: u.m.blocks[u.m.slot]}, map[uint32]api.Page{}}
	for n := 2; n < u.m.g.Blocks; n++ {
		if u.m.now[n] > 0 {
			k.blocks[n] = u.m.blocks[n]
		}
		if u.m.now[n] > 0 && u.m.accessible(uint32(n)) {
			k.pages[uint32(n)] = u.m.kept[uint32(n)]
		}
	}
	return k
}

// is tells whether a device contains what was committed, complete; a space of it has been opened.
func (k kept) is(d *device.Device, s *space.Space) bool {
	if s.Gen() != k.gen || s.Root() != k.root || s.Audit(k.owned) != api.OK {
		return false
	}
	for n, want := range k.counts {
		if s.Count(uint32(n)) != want {
			return false
		}
	}
	for n, want := range k.blocks {
		if got, e := d.Read(n); e != api.OK || got != want {
			return false
		}
	}
	for n, want := range k.pages {
		if got, e := s.Get(n); e != api.OK || !same(got, want) {
			return false
		}
	}
	return true
}

// one gives away one of the references.
func (u *user) one(rnd *rand.Rand) uint32 {
	i := rnd.IntN(len(u.owned))
	n := u.owned[i]
	u.owned = slices.Delete(u.owned, i, i+1)
	return n
}

// step does something that uses no references but those of the user.
func (u *user) step(rnd *rand.Rand) {
	u.t.Helper()
	switch k := rnd.IntN(40); {
	case k < 16:
		u.putSome(rnd)
	case k < 21 && len(u.owned) > 0:
		n := u.owned[rnd.IntN(len(u.owned))]
		u.share("step", n)
		u.owned = append(u.owned, n)
	case k < 30 && len(u.owned) > 0:
		u.drop("step", u.one(rnd))
	case k < 33:
		u.commit("step", u.someRoot(rnd))
		u.last = u.keep()
	case k < 34:
		u.abort("step")
		u.owned = slices.Clone(u.last.owned)
	case k < 36 && u.m.mark == nil:
		u.mark("step")
		u.marked = slices.Clone(u.owned)
	case k < 38 && u.m.mark != nil:
		u.back("step")
		u.owned = slices.Clone(u.marked)
	case k < 39 && u.m.mark != nil:
		u.done("step")
	}
}

func (u *user) putSome(rnd *rand.Rand) {
	p := api.Page{Tag: byte(3 + rnd.IntN(5)), Data: strings.Repeat("u", rnd.IntN(20)) + fmt.Sprint(u.m.ops)}
	for range rnd.IntN(4) {
		if len(u.owned) > 0 {
			p.Kids = append(p.Kids, u.one(rnd))
		}
	}
	n, e := u.tryPut("step", p)
	if e == api.OK {
		u.owned = append(u.owned, n)
	} else {
		u.owned = append(u.owned, p.Kids...)
	}
}

func (u *user) someRoot(rnd *rand.Rand) uint32 {
	if len(u.owned) == 0 {
		return 0
	}
	return u.owned[rnd.IntN(len(u.owned))]
}

// wantHeldUntouched fails if one of the pending writes is to a block of what was committed last.
func (u *user) wantHeldUntouched() {
	u.t.Helper()
	for _, w := range u.d.Pending() {
		if _, ok := u.last.blocks[w.Block]; ok {
			u.t.Fatalf("block %d of what was committed last is written", w.Block)
		}
	}
}

func newUser(t *testing.T, g api.Geo) *user {
	t.Helper()
	u := &user{run: start(t, g)}
	u.last = u.keep()
	return u
}

// P13.5: whatever is put, shared, passed on and dropped
func TestReferences(t *testing.T) {
	for _, g := range []api.Geo{tiny, small, {Size: 128, Blocks: 60}, {Size: 128, Blocks: 120}, {Size: 512, Blocks: 30}} {
		rnd := rand.New(rand.NewPCG(5, uint64(g.Blocks)))
		for range 4 {
			u := newUser(t, g)
			for range 400 {
				u.step(rnd)
				u.audit("step", u.owned...)
				u.check("step")
				u.wantHeldUntouched()
			}
			for len(u.owned) > 0 {
				u.drop("all", u.one(rnd))
			}
			u.commit("nothing", 0)
			if want := g.Blocks - 2 - pagesOf(g); u.s.Free() != want {
				t.Fatalf("%v: %d free, want %d", g, u.s.Free(), want)
			}
		}
	}
}

// picksOf are some of the pending writes in any order, some of them torn.
func picksOf(rnd *rand.Rand, d *device.Device) []api.Pick {
	all := uint64(1)<<(d.Geo().Size/64) - 1
	var l []api.Pick
	for _, i := range rnd.Perm(len(d.Pending())) {
		switch rnd.IntN(4) {
		case 0:
			l = append(l, api.Pick{Write: i, Sectors: rnd.Uint64() & all})
		case 1, 2:
			l = append(l, api.Pick{Write: i, Sectors: all})
		}
	}
	return l
}

// allOf are all pending writes, complete, in order.
func allOf(d *device.Device) []api.Pick {
	var l []api.Pick
	for i := range d.Pending() {
		l = append(l, api.Pick{Write: i, Sectors: 1<<(d.Geo().Size/64) - 1})
	}
	return l
}

// P13.5: at each time between two steps
func TestCrashes(t *testing.T) {
	for _, g := range []api.Geo{tiny, small, {Size: 128, Blocks: 60}, {Size: 256, Blocks: 30}} {
		rnd := rand.New(rand.NewPCG(6, uint64(g.Blocks)))
		u := newUser(t, g)
		for range 400 {
			u.step(rnd)
			for _, picks := range [][]api.Pick{nil, allOf(u.d), picksOf(rnd, u.d), picksOf(rnd, u.d)} {
				c, e := u.d.Crash(picks)
				if e != api.OK {
					t.Fatalf("Crash: error %d", e)
				}
				s, e := space.Open(c)
				if e != api.OK || !u.last.is(c, s) {
					t.Fatalf("%v: Open: error %d: what was committed last is not there", g, e)
				}
			}
		}
	}
}

// P13.5: at each time during a commit: what was committed last is there, or the new one
func TestCrashesInCommits(t *testing.T) {
	olds, news := 0, 0
	for _, g := range []api.Geo{tiny, small, {Size: 128, Blocks: 113}, {Size: 512, Blocks: 30}} {
		rnd := rand.New(rand.NewPCG(7, uint64(g.Blocks)))
		u := newUser(t, g)
		for range 150 {
			for range rnd.IntN(8) {
				u.step(rnd)
			}
			root := u.someRoot(rnd)
			u.d.Fuse(rnd.IntN(pagesOf(g) + 3))
			old := u.last
			u.want("fuse", u.s.Commit(root), api.ErrState)
			u.m.commit(root)
			now := u.keep()
			for range 4 {
				c, _ := u.d.Crash(picksOf(rnd, u.d))
				s, e := space.Open(c)
				if e != api.OK {
					t.Fatalf("%v: Open: error %d", g, e)
				}
				switch {
				case old.is(c, s):
					olds++
				case now.is(c, s):
					news++
				default:
					t.Fatalf("%v: neither what was committed last is there, nor the new one", g)
				}
			}
			u.goOn(old, now)
		}
	}
	if olds < 100 || news < 100 {
		t.Errorf("%d times what was committed last, %d times the new one", olds, news)
	}
}

// goOn flushes nothing of an interrupted commit, or all of it, and goes on with what is there.
func (u *user) goOn(old, now kept) {
	u.t.Helper()
	d, _ := u.d.Crash(allOf(u.d))
	s, e := space.Open(d)
	if e != api.OK {
		u.t.Fatalf("Open: error %d", e)
	}
	u.d, u.s, u.last = d, s, old
	if s.Gen() == now.gen {
		u.last = now
	} else {
		u.m.gen, u.m.root, u.m.slot = old.gen, old.root, 1-u.m.slot
	}
	if !u.last.is(d, s) {
		u.t.Fatal("what is there is not complete")
	}
	u.owned = slices.Clone(u.last.owned)
	u.m.pages = nil
	u.m.now, u.m.held, u.m.mark, u.m.ops = slices.Clone(u.last.counts), slices.Clone(u.last.counts), nil, 0
	for n := range u.m.blocks {
		u.m.blocks[n], _ = d.Read(n)
		if _, ok := u.last.pages[uint32(n)]; n > 1 && u.m.now[n] > 0 && !ok {
			u.m.pages = append(u.m.pages, uint32(n))
		}
	}
	for n, p := range u.last.pages {
		u.m.kept[n] = p
	}
	u.check("after a crash")
}
