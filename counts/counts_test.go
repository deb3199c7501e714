package counts_test

import (
	"math"
	"math/rand/v2"
	"slices"
	"testing"

	"shadowbook/api"
	"shadowbook/counts"
)

// P12.1
func TestNew(t *testing.T) {
	for _, g := range geos {
		wantAll(t, "New", g, fresh(t, g), newOf(g))
	}
	for _, g := range badGeos {
		if c, e := counts.New(g); c != nil || e != api.ErrArg {
			t.Errorf("New %v: %v, error %d", g, c != nil, e)
		}
	}
}

// P12.2: the chapter's example
func TestExample(t *testing.T) {
	c := fresh(t, small)
	wantTake(t, "first", c, nil, 2, api.OK)
	wantTake(t, "second", c, nil, 3, api.OK)
	wantSub(t, "the first", c, 2, 0, api.OK)
	wantTake(t, "again", c, nil, 2, api.OK)
	wantAll(t, "example", small, c, []int{1, 1, 1, 1, 0, 0, 0, 0})
}

// P12.2
func TestAddAndSub(t *testing.T) {
	for _, g := range geos {
		all := newOf(g)
		last := uint32(g.Blocks - 1)
		all[2], all[last] = 1, 7
		c := load(t, g, all)
		wantAdd(t, "in use", c, 2, api.OK)
		wantAdd(t, "in use", c, last, api.OK)
		wantAdd(t, "in use", c, last, api.OK)
		wantAdd(t, "not in use", c, 3, api.ErrState)
		wantAdd(t, "not in use", c, last-1, api.ErrState)
		all[2], all[last] = 2, 9
		wantAll(t, "Add", g, c, all)
		wantSub(t, "two", c, 2, 1, api.OK)
		wantSub(t, "one", c, 2, 0, api.OK)
		wantSub(t, "none", c, 2, 0, api.ErrState)
		wantSub(t, "not in use", c, last-1, 0, api.ErrState)
		wantSub(t, "nine", c, last, 8, api.OK)
		wantAdd(t, "not in use any more", c, 2, api.ErrState)
		all[2], all[last] = 0, 8
		wantAll(t, "Sub", g, c, all)
	}
}

// P12.2: from 1 to the greatest count, and back
func TestMaxCount(t *testing.T) {
	c := fresh(t, small)
	wantTake(t, "new", c, nil, 2, api.OK)
	for n := 2; n <= 65535; n++ {
		if e := c.Add(2); e != api.OK || c.Get(2) != n {
			t.Fatalf("Add: error %d, %d, want %d", e, c.Get(2), n)
		}
	}
	want := []int{1, 1, 65535, 0, 0, 0, 0, 0}
	for range 3 {
		wantAdd(t, "the greatest count", c, 2, api.ErrLimit)
		wantAll(t, "the greatest count", small, c, want)
	}
	wantSub(t, "the greatest count", c, 2, 65534, api.OK)
	wantAdd(t, "the greatest count but one", c, 2, api.OK)
	for n := 65534; n >= 0; n-- {
		if left, e := c.Sub(2); e != api.OK || left != n || c.Get(2) != n {
			t.Fatalf("Sub: %d, error %d, %d, want %d", left, e, c.Get(2), n)
		}
	}
	wantSub(t, "none", c, 2, 0, api.ErrState)
	wantAll(t, "none", small, c, newOf(small))
}

// P12.2
func TestNoBlocks(t *testing.T) {
	for _, g := range geos {
		all := newOf(g)
		for n := 2; n < g.Blocks; n++ {
			all[n] = n % 5
		}
		c := load(t, g, all)
		for _, n := range noBlocks(g) {
			wantAdd(t, "no block", c, n, api.ErrArg)
			wantSub(t, "no block", c, n, 0, api.ErrArg)
			if n > 1 && c.Get(n) != 0 {
				t.Errorf("%v: Get %d: %d", g, n, c.Get(n))
			}
		}
		wantAll(t, "no block", g, c, all)
	}
}

// P12.2: the smallest block first, until there is none
func TestTake(t *testing.T) {
	for _, g := range geos {
		c, all := fresh(t, g), newOf(g)
		for n := 2; n < g.Blocks; n++ {
			wantTake(t, "free", c, nil, uint32(n), api.OK)
			all[n] = 1
		}
		wantTake(t, "full", c, nil, 0, api.ErrFull)
		wantTake(t, "full, nothing held", c, fresh(t, g), 0, api.ErrFull)
		wantAll(t, "full", g, c, all)
		for _, n := range []int{g.Blocks - 1, 2, g.Blocks / 2} {
			wantSub(t, "one", c, uint32(n), 0, api.OK)
			wantTake(t, "one is free", c, nil, uint32(n), api.OK)
		}
		wantTake(t, "full again", c, nil, 0, api.ErrFull)
		wantAll(t, "full again", g, c, all)
	}
}

// P12.2: what is held is not taken, nor changed
func TestTakeHeld(t *testing.T) {
	hold := []int{1, 1, 3, 0, 65535, 0, 1, 1}
	c, held := load(t, small, []int{1, 1, 0, 4, 0, 0, 0, 65535}), load(t, small, hold)
	wantTake(t, "2 to 4 are in use or held", c, held, 5, api.OK)
	wantTake(t, "nothing is left", c, held, 0, api.ErrFull)
	wantAll(t, "held", small, c, []int{1, 1, 0, 4, 0, 1, 0, 65535})
	wantAll(t, "held", small, held, hold)
	wantSub(t, "held", held, 6, 0, api.OK)
	wantTake(t, "6 is not held any more", c, held, 6, api.OK)
	wantTake(t, "nothing is held", c, nil, 2, api.OK)
	wantTake(t, "what is held is taken", held, c, 0, api.ErrFull)
	wantTake(t, "what is held is taken without", held, nil, 3, api.OK)
	wantTake(t, "holding itself", held, held, 5, api.OK)
	wantAll(t, "held", small, held, []int{1, 1, 3, 1, 65535, 1, 0, 1})
}

// P12.2: the errors of Take, in their order
func TestTakeErrors(t *testing.T) {
	full := load(t, small, []int{1, 1, 1, 1, 1, 1, 1, 1})
	for _, c := range []*counts.Counts{fresh(t, small), full} {
		was := c.All()
		for _, g := range []api.Geo{{Size: 192, Blocks: 8}, {Size: 128, Blocks: 9}, {Size: 4096, Blocks: 8}, {Size: 128, Blocks: 4096}, {Size: 192, Blocks: 9}} {
			wantTake(t, "held for another geometry", c, fresh(t, g), 0, api.ErrArg)
		}
		for _, held := range invalid(t)[1:] {
			wantTake(t, "held for no geometry", c, held, 0, api.ErrArg)
		}
		wantAll(t, "another geometry", small, c, was)
	}
	big := fresh(t, api.Geo{Size: 128, Blocks: 4096})
	wantTake(t, "held for a smaller geometry", big, full, 0, api.ErrArg)
	wantTake(t, "new", big, nil, 2, api.OK)
}

// P12.2
func TestInvalid(t *testing.T) {
	valid := fresh(t, small)
	for i, c := range invalid(t) {
		for _, n := range append(noBlocks(small), 2, 7) {
			wantAdd(t, "invalid", c, n, api.ErrNil)
			wantSub(t, "invalid", c, n, 0, api.ErrNil)
			if c.Get(n) != 0 {
				t.Errorf("invalid %d: Get %d: %d", i, n, c.Get(n))
			}
		}
		for _, held := range append(invalid(t), valid, c) {
			wantTake(t, "invalid", c, held, 0, api.ErrNil)
		}
		if c.Used() != 0 || c.Clone() != nil || len(c.All()) != 0 || len(c.Pages()) != 0 {
			t.Errorf("invalid %d: %d, %v, %v, %x", i, c.Used(), c.Clone(), c.All(), c.Pages())
		}
	}
	wantAll(t, "held by invalid counts", small, valid, newOf(small))
}

// P12.2
func TestClone(t *testing.T) {
	for _, g := range geos {
		c := fresh(t, g)
		wantTake(t, "new", c, nil, 2, api.OK)
		wantAdd(t, "new", c, 2, api.OK)
		all := c.All()
		d := c.Clone()
		wantAll(t, "Clone", g, d, all)
		wantTake(t, "what was cloned", c, nil, 3, api.OK)
		wantSub(t, "what was cloned", c, 2, 1, api.OK)
		wantAll(t, "what was cloned has changed", g, d, all)
		f := d.Clone()
		wantAdd(t, "the clone", d, 2, api.OK)
		wantTake(t, "the clone", d, f, 3, api.OK)
		wantTake(t, "the clone", d, f, 4, api.OK)
		wantAll(t, "a clone of a clone", g, f, all)
		all[2], all[3] = 1, 1
		wantAll(t, "a clone has changed", g, c, all)
		all[2], all[4] = 3, 1
		wantAll(t, "a changed clone", g, d, all)
	}
}

// P12.2: what All and Pages return is new memory
func TestNewMemory(t *testing.T) {
	g := api.Geo{Size: 128, Blocks: 300}
	c := fresh(t, g)
	first, second := c.All(), c.All()
	pages, others := c.Pages(), c.Pages()
	_, _ = append(first, 1, 2, 3), append(pages, "x")
	for i := range first[:cap(first)] {
		first[:cap(first)][i] = 9
	}
	for i := range pages[:cap(pages)] {
		pages[:cap(pages)][i] = "x"
	}
	if !slices.Equal(second, newOf(g)) || !slices.Equal(others, pagesOf(g, newOf(g))) {
		t.Errorf("%v, %x", second, others)
	}
	wantAll(t, "after its results were changed", g, c, newOf(g))
}

// P12.2: calls in any order, held against a map
func TestManyCalls(t *testing.T) {
	r := rand.New(rand.NewPCG(12, 2))
	errors := map[api.Errno]int{}
	for _, g := range []api.Geo{small, {Size: 128, Blocks: 60}, {Size: 4096, Blocks: 100}} {
		m := newModel(g)
		c, held, hold := fresh(t, g), (*counts.Counts)(nil), map[uint32]int{}
		for range 8_000 {
			n := r.Uint32N(uint32(g.Blocks + 2))
			switch r.IntN(9) {
			case 0, 1:
				want := m.add(n)
				wantAdd(t, "many", c, n, want)
				errors[want]++
			case 2, 3, 4:
				left, want := m.sub(n)
				wantSub(t, "many", c, n, left, want)
				errors[want]++
			case 5, 6, 7:
				n, want := m.take(hold)
				wantTake(t, "many", c, held, n, want)
				errors[want]++
			case 8:
				if held, hold = c.Clone(), m.all(); r.IntN(2) == 0 {
					held, hold = nil, nil
				}
			}
		}
		all := newOf(g)
		for n, count := range m.of {
			all[n] = count
		}
		wantAll(t, "many", g, c, all)
	}
	for _, e := range []api.Errno{api.OK, api.ErrArg, api.ErrState, api.ErrFull} {
		if errors[e] < 100 {
			t.Errorf("error %d: only %d times", e, errors[e])
		}
	}
}

// model is counts as a map.
type model struct {
	g  api.Geo
	of map[uint32]int
}

func newModel(g api.Geo) model {
	return model{g, map[uint32]int{0: 1, 1: 1}}
}

func (m model) all() map[uint32]int {
	all := map[uint32]int{}
	for n, count := range m.of {
		all[n] = count
	}
	return all
}

func (m model) check(n uint32) api.Errno {
	switch {
	case n < 2 || n >= uint32(m.g.Blocks):
		return api.ErrArg
	case m.of[n] == 0:
		return api.ErrState
	}
	return api.OK
}

func (m model) add(n uint32) api.Errno {
	e := m.check(n)
	switch {
	case e == api.OK && m.of[n] == math.MaxUint16:
		return api.ErrLimit
	case e == api.OK:
		m.of[n]++
	}
	return e
}

func (m model) sub(n uint32) (int, api.Errno) {
	e := m.check(n)
	if e != api.OK {
		return 0, e
	}
	m.of[n]--
	return m.of[n], e
}

func (m model) take(held map[uint32]int) (uint32, api.Errno) {
	for n := uint32(0); n < uint32(m.g.Blocks); n++ {
		if m.of[n]+held[n] == 0 {
			m.of[n] = 1
			return n, api.OK
		}
	}
	return 0, api.ErrFull
}
