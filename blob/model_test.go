package blob_test

import (
	"fmt"
	"maps"
	"math/rand"
	"slices"
	"testing"

	"shadowbook/api"
	"shadowbook/blob"
	"shadowbook/device"
	"shadowbook/space"
	"shadowbook/tree"
)

// user has references to blobs, and knows the bytes of each.
type user struct {
	*run
	x      *rand.Rand
	owned  []uint32
	bytes  map[uint32]string
	before *user // as it was committed last
}

func newUser(t *testing.T, g api.Geo, seed int64) *user {
	t.Helper()
	u := &user{run: start(t, g), x: rand.New(rand.NewSource(seed)), bytes: map[uint32]string{}}
	u.keep()
	return u
}

func (u *user) keep() {
	u.before = &user{owned: slices.Clone(u.owned), bytes: maps.Clone(u.bytes)}
}

// back is what is there after what was not committed is gone.
func (u *user) back() {
	u.owned, u.bytes = slices.Clone(u.before.owned), maps.Clone(u.before.bytes)
}

// one gives away one of the references.
func (u *user) one() uint32 {
	i := u.x.Intn(len(u.owned))
	n := u.owned[i]
	u.owned = slices.Delete(u.owned, i, i+1)
	return n
}

// length is one of a blob that leaves space for others, or one that is too long.
func (u *user) length() int {
	g := u.d.Geo()
	switch u.x.Intn(20) {
	case 0:
		return most(g) + 1 + u.x.Intn(3)
	case 1:
		return most(g) - u.x.Intn(3)
	case 2, 3, 4, 5:
		return max(0, u.x.Intn(5)*room(g)+u.x.Intn(3)-1)
	}
	return u.x.Intn(min(most(g), 10*room(g)))
}

func (u *user) putSome(why string) {
	g, b := u.d.Geo(), text(u.x.Int(), u.length())
	reserved := (2*g.Blocks + g.Size - 17) / (g.Size - 16)
	switch {
	case len(b) > most(g):
		u.fails(why, b, api.ErrLong)
	case pagesOf(g, len(b))+1 > u.s.Free()-reserved:
		u.fails(why, b, api.ErrFull)
	default:
		n := u.put(why, b)
		u.want(why, n, b)
		u.owned, u.bytes[n] = append(u.owned, n), b
	}
}

// step does something that uses no references but those of the user.
func (u *user) step(why string) {
	u.t.Helper()
	switch k := u.x.Intn(20); {
	case k < 9 || len(u.owned) == 0:
		u.putSome(why)
	case k < 11:
		n := u.owned[u.x.Intn(len(u.owned))]
		if e := u.s.Share(n); e != api.OK {
			u.t.Fatalf("%s: Share %d: error %d", why, n, e)
		}
		u.owned = append(u.owned, n)
	case k < 17:
		u.drop(why, u.one())
	case k < 19:
		u.commit(why, u.owned[u.x.Intn(len(u.owned))])
		u.keep()
	default:
		if e := u.s.Abort(); e != api.OK {
			u.t.Fatalf("%s: Abort: error %d", why, e)
		}
		u.back()
	}
}

// check fails unless each blob is there, and nothing else is.
func (u *user) check(why string) {
	u.t.Helper()
	for i, n := range u.owned {
		if slices.Index(u.owned, n) == i {
			u.reads(why, n, u.bytes[n])
		}
	}
	u.audit(why, u.owned...)
}

// crash opens the device after a crash, with none of the pending writes or all of them.
func (u *user) crash(why string, picks []api.Pick) *user {
	u.t.Helper()
	d, e := u.d.Crash(picks)
	if e != api.OK {
		u.t.Fatalf("%s: Crash: error %d", why, e)
	}
	s, e := space.Open(d)
	if e != api.OK {
		u.t.Fatalf("%s: Open: error %d", why, e)
	}
	c := &user{run: &run{u.t, d, s}, x: u.x, before: u.before}
	c.back()
	return c
}

func all(d *device.Device) []api.Pick {
	var l []api.Pick
	for i := range d.Pending() {
		l = append(l, api.Pick{Write: i, Sectors: 1<<(d.Geo().Size/api.Sector) - 1})
	}
	return l
}

// P15.3: whatever is put, shared, dropped, committed and crashed
func TestBlobs(t *testing.T) {
	for i, g := range []api.Geo{{Size: 128, Blocks: 40}, {Size: 128, Blocks: 200}, {Size: 256, Blocks: 100}, {Size: 4096, Blocks: 48}} {
		u := newUser(t, g, int64(i))
		free := u.s.Free()
		for step := range 400 {
			why := fmt.Sprintf("%v, step %d", g, step)
			u.step(why)
			u.check(why)
			if step%5 > 0 {
				continue
			}
			u.crash(why, all(u.d)).check(why)
			c := u.crash(why, nil)
			c.check(why)
			if step%50 == 0 {
				u = c
			}
		}
		for len(u.owned) > 0 {
			u.drop("all", u.one())
			u.check("all")
		}
		u.commit("nothing", 0)
		if u.s.Free() != free {
			t.Errorf("%v: %d free, want %d", g, u.s.Free(), free)
		}
	}
}

// P15.3: blobs that are the values of a tree go with it
func TestBlobsInTree(t *testing.T) {
	r := start(t, api.Geo{Size: 128, Blocks: 400})
	free, root := r.s.Free(), uint32(0)
	var roots []uint32
	for key := range uint64(40) {
		n := r.put("a value", text(int(key), int(key)*15))
		next, e := tree.Insert(r.s, root, true, key, uint64(n))
		if e != api.OK {
			t.Fatalf("Insert %d: error %d", key, e)
		}
		root = next
		if key%10 == 0 && r.s.Share(root) == api.OK {
			roots = append(roots, root)
		}
	}
	roots = append(roots, root)
	r.audit("trees", roots...)
	for i, root := range roots {
		count := 0
		for key, n := range tree.Each(r.s, root, 0) {
			r.want("a value", uint32(n), text(int(key), int(key)*15))
			count++
		}
		if want := min(10*i+1, 40); count != want {
			t.Errorf("tree %d: %d values, want %d", i, count, want)
		}
	}
	for i, root := range roots {
		r.drop("a tree", root)
		r.audit("a tree", roots[i+1:]...)
	}
	if r.s.Free() != free {
		t.Errorf("%d free, want %d", r.s.Free(), free)
	}
}

// T6: the result depends only on what was done before
func TestSame(t *testing.T) {
	for _, g := range geos {
		a, b := start(t, g), start(t, g)
		for i := range 5 {
			s := text(i, i*room(g))
			n, e := blob.Put(a.s, s)
			m, f := blob.Put(b.s, s)
			if n != m || e != f || !slices.Equal(a.state(), b.state()) {
				t.Errorf("%v: %d, error %d, and %d, error %d", g, n, e, m, f)
			}
		}
		for n := range g.Blocks {
			x, _ := a.d.Read(n)
			if y, _ := b.d.Read(n); x != y {
				t.Errorf("%v: block %d is not the same", g, n)
			}
		}
	}
}
