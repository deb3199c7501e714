package segment_test

import (
	"fmt"
	"math"
	"math/rand/v2"
	"slices"
	"strings"
	"testing"

	"shadowbook/api"
	"shadowbook/segment"
	"shadowbook/zone"
)

var kinds = []int{api.KindInt, api.KindBool, api.KindText}

// some is a valid cell of that kind, of few different ones, so that equal ones come up.
func some(r *rand.Rand, kind int) api.Cell {
	switch kind {
	case 1:
		return num([]int64{5, r.Int64N(7) - 3, r.Int64N(1000), int64(r.Uint64()), math.MinInt64, math.MaxInt64}[r.IntN(6)])
	case 2:
		return truth(r.Int64N(2))
	}
	return word(strings.Repeat(string([]byte{byte(r.IntN(3)) + 'a'}), r.IntN(4)) + string([]byte{byte(r.IntN(256))})[r.IntN(2):])
}

// column are n cells of that kind, so many in four of them null.
func column(r *rand.Rand, kind, n, nulls int) []api.Cell {
	l := make([]api.Cell, n)
	for i := range l {
		if r.IntN(4) >= nulls {
			l[i] = some(r, kind)
		}
	}
	return l
}

// columns are those at which an encoding may change.
func columns(kind int) [][]api.Cell {
	r := rand.New(rand.NewPCG(10, uint64(kind)))
	all := [][]api.Cell{nil}
	for _, n := range []int{1, 2, 3, 4, 7, 8, 9, 15, 16, 17, 63, 64, 65, 127, 128, 129, 1000, most - 1, most} {
		for nulls := range 5 {
			all = append(all, column(r, kind, n, nulls))
		}
		one := column(r, kind, n, 0) // one null, and one that is none
		one[r.IntN(n)] = empty
		other := column(r, kind, n, 4)
		other[r.IntN(n)] = some(r, kind)
		all = append(all, one, other)
	}
	for range 300 {
		all = append(all, column(r, kind, r.IntN(6), r.IntN(5)))
	}
	return all
}

// wantPut fails unless the cells are put as the document says, and got again.
func wantPut(t *testing.T, kind int, l []api.Cell, want string) {
	t.Helper()
	if e := segment.Check(kind, l); e != api.OK {
		t.Errorf("Check(%d, %s) = %d", kind, short(l), e)
	}
	s, e := segment.Put(kind, l)
	if e != api.OK || s != want {
		t.Errorf("Put(%d, %s): %s, error %d, want %s", kind, short(l), hex(s), e, hex(want))
		return
	}
	if k, got, e := segment.Get(s); e != api.OK || k != kind || !slices.Equal(got, l) {
		t.Errorf("Get of %s: kind %d, %s, error %d, want %s", hex(s), k, short(got), e, short(l))
	}
	wantZone(t, s, kind, modelOf(l))
}

func wantZone(t *testing.T, s string, kind int, z api.Zone) {
	t.Helper()
	if k, got, e := segment.Zone(s); e != api.OK || k != kind || got != z {
		t.Errorf("Zone of %s: kind %d, %v, error %d, want %v", hex(s), k, got, e, z)
	}
}

// wantBad fails unless Get returns ErrBad, and nothing beside it.
func wantBad(t *testing.T, what, s string) {
	t.Helper()
	if k, l, e := segment.Get(s); e != api.ErrBad || k != 0 || len(l) != 0 {
		t.Errorf("Get of %s (%s): kind %d, %s, error %d", hex(s), what, k, short(l), e)
	}
}

// wantBadZone fails unless Zone and Get return ErrBad, and nothing beside it.
func wantBadZone(t *testing.T, what, s string) {
	t.Helper()
	wantBad(t, what, s)
	if k, z, e := segment.Zone(s); e != api.ErrBad || k != 0 || z != (api.Zone{}) {
		t.Errorf("Zone of %s (%s): kind %d, %v, error %d", hex(s), what, k, z, e)
	}
}

// wantTrue fails unless bytes are refused, or those that the document gives to the cells that are got, and unless their zone is that of the document.
func wantTrue(t *testing.T, s string) {
	t.Helper()
	if kind, z, ok := modelZone(s); ok {
		wantZone(t, s, kind, z)
	} else {
		wantBadZone(t, "wrong", s)
	}
	kind, l, e := segment.Get(s)
	if e != api.OK {
		wantBad(t, "wrong", s)
		return
	}
	if kind < 1 || kind > 3 || len(l) > most || modelPut(kind, l) != s {
		t.Errorf("Get of %s: kind %d, %s, of which these are not the bytes", hex(s), kind, short(l))
	}
}

// The chapter's example.
func TestExample(t *testing.T) {
	wantPut(t, api.KindBool, []api.Cell{truth(1), {}}, "\x02\x02\x02\x02\x01\x01\x01")
}

// P10.1, P10.3: encodings, written out.
func TestByHand(t *testing.T) {
	for _, c := range []struct {
		kind int
		l    []api.Cell
		want string
	}{
		{1, nil, "\x01\x00\x00"},
		{2, nil, "\x02\x00\x00"},
		{3, []api.Cell{}, "\x03\x00\x00"},
		{1, []api.Cell{{}}, "\x01\x01\x01"},
		{2, []api.Cell{{}, {}}, "\x02\x02\x01"},
		{3, []api.Cell{{}, {}, {}}, "\x03\x03\x01"},
		{1, []api.Cell{num(-2)}, "\x01\x01\x00" + eight(-2) + eight(-2) + "\x01\x01" + eight(-2)},
		{1, []api.Cell{num(7), num(7), num(7), num(7)}, "\x01\x04\x00" + eight(7) + eight(7) + "\x02\x04\x04" + eight(7)},
		{1, []api.Cell{num(6), {}, num(5)}, "\x01\x03\x02\x02" + eight(5) + eight(6) + "\x03\x02" + eight(5) + "\x01\x01"},
		{1, []api.Cell{num(math.MaxInt64), num(math.MinInt64)}, "\x01\x02\x00" + eight(math.MinInt64) + eight(math.MaxInt64) + "\x01\x02" + eight(math.MaxInt64) + eight(math.MinInt64)},
		{2, []api.Cell{truth(0)}, "\x02\x01\x00\x00\x00\x00"},
		{2, []api.Cell{truth(1)}, "\x02\x01\x00\x01\x01\x01"},
		{2, []api.Cell{{}, truth(0), truth(1), truth(1)}, "\x02\x04\x02\x01\x00\x01\x06"},
		{2, []api.Cell{truth(1), truth(0), truth(0), truth(0), truth(0), truth(0), truth(0), truth(0), truth(1)}, "\x02\x09\x00\x00\x01\x01\x01"},
		{2, []api.Cell{{}, {}, {}, {}, {}, {}, {}, {}, truth(1)}, "\x02\x09\x02\xff\x00\x01\x01\x01"},
		{3, []api.Cell{word("")}, "\x03\x01\x00\x00\x00\x01\x01\x00"},
		{3, []api.Cell{word("b"), {}, word("a")}, "\x03\x03\x02\x02\x01a\x01b\x01\x02\x01b\x01a"},
		{3, []api.Cell{word("a"), word("a"), word("a"), {}, word("a"), word("a"), word("a")}, "\x03\x07\x02\x08\x01a\x01a\x02\x06\x01\x01a\x00"},
	} {
		if model := modelPut(c.kind, c.l); model != c.want {
			t.Errorf("the model of %s: %s, want %s", short(c.l), hex(model), hex(c.want))
		}
		wantPut(t, c.kind, c.l, c.want)
	}
}

// P10.1, P10.3
func TestColumns(t *testing.T) {
	for _, kind := range kinds {
		for _, l := range columns(kind) {
			wantPut(t, kind, l, modelPut(kind, l))
			if z := zone.Of(l); z != modelOf(l) {
				t.Errorf("the zone of %s: %v", short(l), z)
			}
		}
	}
}

// P10.1, P10.3: texts of the greatest length, and as many cells as there may be.
func TestGreat(t *testing.T) {
	long := strings.Repeat("a", longest)
	for _, l := range [][]api.Cell{
		{word(long)},
		{word(long), word(""), {}, word(long), word(long[1:] + "b")},
		slices.Repeat([]api.Cell{word("a"), {}}, most/2),
	} {
		wantPut(t, api.KindText, l, modelPut(api.KindText, l))
	}
	wantPut(t, api.KindInt, make([]api.Cell, most), "\x01\x80\x20\x01")
}

// P10.1: Check and Put return the first error.
func TestCheck(t *testing.T) {
	long := word(strings.Repeat("a", longest+1))
	odd := api.Cell{Kind: 2, Int: 2}
	none := api.Cell{Kind: 4}
	many := make([]api.Cell, most+1)
	for _, c := range []struct {
		what string
		kind int
		l    []api.Cell
		want api.Errno
	}{
		{"no kind of columns", 0, nil, api.ErrArg},
		{"no kind of columns, nulls", 0, []api.Cell{{}}, api.ErrArg},
		{"no kind", 4, nil, api.ErrArg},
		{"no kind", -1, nil, api.ErrArg},
		{"no kind", math.MaxInt, nil, api.ErrArg},
		{"no kind", math.MinInt, nil, api.ErrArg},
		{"a kind modulo 2^8", 257, nil, api.ErrArg},
		{"a kind modulo 2^32", 1<<32 + 1, nil, api.ErrArg},
		{"no kind, of cells of it", 4, []api.Cell{none}, api.ErrArg},
		{"no kind, and too many", 0, many, api.ErrArg},
		{"no kind, and too long", 5, []api.Cell{long}, api.ErrArg},
		{"too many", 1, many, api.ErrLong},
		{"too many", 3, make([]api.Cell, 1<<16), api.ErrLong},
		{"too many, and a cell of another kind first", 2, append([]api.Cell{num(1)}, many...), api.ErrLong},
		{"too many, and a cell that is not valid first", 2, append([]api.Cell{odd}, many...), api.ErrLong},
		{"too long", 3, []api.Cell{word("a"), long}, api.ErrLong},
		{"too long, of another kind", 1, []api.Cell{long}, api.ErrLong},
		{"too long, and not valid", 3, []api.Cell{{Kind: 3, Int: 1, Text: long.Text}}, api.ErrLong},
		{"no bool", 2, []api.Cell{truth(1), odd}, api.ErrArg},
		{"no bool, of another kind", 1, []api.Cell{odd}, api.ErrArg},
		{"no such kind", 1, []api.Cell{none}, api.ErrArg},
		{"a negative kind", 1, []api.Cell{{Kind: -1}}, api.ErrArg},
		{"null with a number", 1, []api.Cell{{Int: 1}}, api.ErrArg},
		{"null with a text", 3, []api.Cell{{Text: "a"}}, api.ErrArg},
		{"a number with a text", 1, []api.Cell{{Kind: 1, Text: "a"}}, api.ErrArg},
		{"a text with a number", 3, []api.Cell{{Kind: 3, Int: 1}}, api.ErrArg},
		{"another kind", 1, []api.Cell{num(1), {}, truth(1)}, api.ErrKind},
		{"another kind", 1, []api.Cell{word("1")}, api.ErrKind},
		{"another kind", 2, []api.Cell{num(1)}, api.ErrKind},
		{"another kind", 2, []api.Cell{word("")}, api.ErrKind},
		{"another kind", 3, []api.Cell{{}, num(0)}, api.ErrKind},
		{"another kind", 3, []api.Cell{truth(0)}, api.ErrKind},
		{"another kind ahead of a cell that is not valid", 1, []api.Cell{truth(1), odd}, api.ErrKind},
		{"another kind ahead of one that is too long", 1, []api.Cell{truth(1), long}, api.ErrKind},
		{"not valid ahead of another kind", 1, []api.Cell{odd, truth(1)}, api.ErrArg},
		{"not valid ahead of one that is too long", 3, []api.Cell{odd, long}, api.ErrArg},
		{"too long ahead of one that is not valid", 3, []api.Cell{long, odd, num(1)}, api.ErrLong},
		{"the last of as many as there may be", 1, append(make([]api.Cell, most-1), truth(0)), api.ErrKind},
	} {
		if e := segment.Check(c.kind, c.l); e != c.want {
			t.Errorf("%s: Check(%d, %s) = %d, want %d", c.what, c.kind, short(c.l), e, c.want)
		}
		if s, e := segment.Put(c.kind, c.l); e != c.want || s != "" {
			t.Errorf("%s: Put(%d, %s): %s, error %d, want %d", c.what, c.kind, short(c.l), hex(s), e, c.want)
		}
	}
}

// P10.2: what precedes the cells is wrong.
func TestBadZone(t *testing.T) {
	over := string([]byte{0x81, 0x80, 0x04}) + strings.Repeat("a", longest+1)
	for _, c := range []struct{ what, s string }{
		{"nothing", ""},
		{"kind 0", "\x00\x00\x00"},
		{"kind 0, a null", "\x00\x01\x01"},
		{"kind 4", "\x04\x00\x00"},
		{"kind 4, a null", "\x04\x01\x01"},
		{"kind 255", "\xff\x00\x00"},
		{"a kind alone", "\x01"},
		{"a number of flags alone", "\x01\x01"},
		{"a varint that is too long", "\x01\x80\x00\x00"},
		{"too many flags", "\x01\x81\x20\x01"},
		{"flags in form 3", "\x01\x01\x03"},
		{"no flags, of which all are true", "\x01\x00\x01"},
		{"no flags, of which some are true", "\x01\x00\x02"},
		{"some flags that are all true", "\x02\x02\x02\x03"},
		{"some flags that are all false", "\x02\x02\x02\x00\x00\x00\x00"},
		{"a flag too many", "\x02\x02\x02\x05\x00\x00\x00"},
		{"flags that are missing", "\x02\x02\x02"},
		{"no smallest number", "\x01\x01\x00"},
		{"half a smallest number", "\x01\x01\x00" + eight(1)[:7]},
		{"no greatest number", "\x01\x01\x00" + eight(1)},
		{"half a greatest number", "\x01\x01\x00" + eight(1) + eight(1)[:7]},
		{"numbers that fall", "\x01\x01\x00" + eight(1) + eight(0)},
		{"numbers that fall, with their signs", "\x01\x01\x00" + eight(0) + eight(-1)},
		{"numbers that fall, with their cells", "\x01\x02\x00" + eight(6) + eight(5) + modelIntForms([]int64{5, 6})[2]},
		{"no smallest bool", "\x02\x01\x00"},
		{"no greatest bool", "\x02\x01\x00\x00"},
		{"no smallest bool, but 2", "\x02\x01\x00\x02\x02\x01"},
		{"no greatest bool, but 2", "\x02\x01\x00\x01\x02\x01"},
		{"bools that fall", "\x02\x02\x00\x01\x00\x01"},
		{"no smallest text", "\x03\x01\x00"},
		{"half a smallest text", "\x03\x01\x00\x02a"},
		{"no greatest text", "\x03\x01\x00\x01a"},
		{"half a greatest text", "\x03\x01\x00\x01a\x02a"},
		{"a length of a text that is too long a varint", "\x03\x01\x00\x81\x00a\x01a\x01\x01\x01a"},
		{"texts that fall", "\x03\x01\x00\x01b\x01a\x01\x01\x01a"},
		{"a smallest text that is missing, and one that is there", "\x03\x01\x00\xff\xff\x03\x01a"},
		{"a smallest text that is too long", "\x03\x01\x00" + over + "\x01b"},
		{"a greatest text that is too long", "\x03\x01\x00\x01a" + over},
		{"a text of 2^63 bytes", "\x03\x01\x00\x80\x80\x80\x80\x80\x80\x80\x80\x80\x01\x01a"},
		{"a text of 2^64 - 1 bytes", "\x03\x01\x00\xff\xff\xff\xff\xff\xff\xff\xff\xff\x01\x01a"},
		{"a text of 2^32 bytes", "\x03\x01\x00\x80\x80\x80\x80\x10\x01a"},
	} {
		wantBadZone(t, c.what, c.s)
		wantTrue(t, c.s)
	}
}

// P10.2: the zone is well formed, and of no cells that follow.
func TestBadCells(t *testing.T) {
	numbers := "\x01\x03\x02\x02" + eight(5) + eight(6)
	some := modelIntForms([]int64{6, 5})
	words := "\x03\x03\x02\x02\x01a\x01b"
	for _, c := range []struct{ what, s string }{
		{"more than nothing", "\x01\x00\x00\x00"},
		{"more than nothing, an encoding of no numbers", "\x01\x00\x00\x01\x00"},
		{"more than nulls", "\x02\x02\x01\x00"},
		{"more than nulls, an encoding of no texts", "\x03\x02\x01\x01\x00"},
		{"numbers missing", numbers},
		{"numbers in another form", numbers + some[0]},
		{"numbers in another form", numbers + some[1]},
		{"more than numbers", numbers + some[2] + "\x00"},
		{"one number", numbers + shortest(modelIntForms([]int64{5}))},
		{"a number too many", numbers + shortest(modelIntForms([]int64{6, 5, 5}))},
		{"another greatest number", numbers + shortest(modelIntForms([]int64{5, 5}))},
		{"another greatest number", numbers + shortest(modelIntForms([]int64{5, 7}))},
		{"another smallest number", numbers + shortest(modelIntForms([]int64{6, 6}))},
		{"another smallest number", numbers + shortest(modelIntForms([]int64{4, 6}))},
		{"texts instead of numbers", numbers + shortest(modelTextForms([]string{"5", "6"}))},
		{"bools missing", "\x02\x02\x02\x02\x01\x01"},
		{"a bool too many", "\x02\x02\x02\x02\x01\x01\x03"},
		{"more than bools", "\x02\x02\x02\x02\x01\x01\x01\x00"},
		{"another greatest bool", "\x02\x02\x00\x00\x01\x00"},
		{"another smallest bool", "\x02\x02\x00\x00\x01\x03"},
		{"another bool", "\x02\x01\x00\x00\x00\x01"},
		{"texts missing", words},
		{"texts in another form", words + modelTextForms([]string{"b", "a"})[1]},
		{"texts in another form", "\x03\x06\x00\x01a\x01a" + modelTextForms(slices.Repeat([]string{"a"}, 6))[0]},
		{"more than texts", words + modelTextForms([]string{"b", "a"})[0] + "\x00"},
		{"one text", words + modelTextForms([]string{"b"})[0]},
		{"a text too many", words + modelTextForms([]string{"b", "a", "a"})[0]},
		{"another smallest text", words + modelTextForms([]string{"b", "aa"})[0]},
		{"another greatest text", words + modelTextForms([]string{"ba", "a"})[0]},
		{"numbers instead of texts", words + shortest(modelIntForms([]int64{5, 6}))},
	} {
		wantBad(t, c.what, c.s)
		wantTrue(t, c.s)
		if _, _, e := segment.Zone(c.s); e != api.OK {
			t.Errorf("Zone of %s (%s): error %d", hex(c.s), c.what, e)
		}
	}
}

// P10.2: only one form of numbers, and of texts, is that which Put chooses.
func TestForms(t *testing.T) {
	r := rand.New(rand.NewPCG(10, 4))
	for _, kind := range []int{1, 3} {
		for range 300 {
			l := append(column(r, kind, r.IntN(9), r.IntN(3)), some(r, kind))
			head, want := modelHead(kind, l), modelPut(kind, l)
			for _, form := range modelForms(kind, there(l)) {
				if head+form != want {
					wantBad(t, "another form", head+form)
				}
				wantZone(t, head+form, kind, modelOf(l))
			}
		}
	}
}

// P10.2: Zone looks at nothing behind the greatest cell.
func TestZoneAlone(t *testing.T) {
	r := rand.New(rand.NewPCG(10, 5))
	for _, kind := range kinds {
		for range 100 {
			l := column(r, kind, r.IntN(12), r.IntN(5))
			head := modelHead(kind, l)
			for _, rest := range []string{"", "\x00", "\xff", "more", strings.Repeat("\x80", 100)} {
				wantZone(t, head+rest, kind, modelOf(l))
			}
			for i := range head {
				wantBadZone(t, "cut off", head[:i])
			}
		}
	}
	wantZone(t, "\x01\x02\x00"+eight(3)+eight(9), 1, api.Zone{Count: 2, Min: num(3), Max: num(9)})
	wantZone(t, "\x01\x01\x00"+eight(3)+eight(9), 1, api.Zone{Count: 1, Min: num(3), Max: num(9)}) // of one cell, which Get would refuse
	wantZone(t, "\x01\x80\x20\x01", 1, api.Zone{Count: most, Nulls: most})
}

// P10.2: encodings that are cut off, continued, or changed in one byte.
func TestChanged(t *testing.T) {
	r := rand.New(rand.NewPCG(10, 6))
	for _, kind := range kinds {
		for range 60 {
			s := modelPut(kind, column(r, kind, r.IntN(10), r.IntN(5)))
			for i := range s {
				wantBad(t, "cut off", s[:i])
				wantTrue(t, s[:i])
				for _, x := range []byte{1, 2, 3, 0x80, byte(r.IntN(255) + 1)} {
					wantTrue(t, s[:i]+string([]byte{s[i] ^ x})+s[i+1:])
				}
				wantTrue(t, s[:i]+s[i+1:])
				wantTrue(t, s[:i]+string([]byte{byte(r.IntN(4))})+s[i:])
			}
			wantBad(t, "continued", s+"\x00")
			wantBad(t, "twice", s+s)
		}
	}
}

// P10.2: all strings of few bytes that such encodings have.
func TestAllShort(t *testing.T) {
	found := 0
	all := []string{""}
	for len(all) > 0 {
		s := all[0]
		all = all[1:]
		wantTrue(t, s)
		if _, _, e := segment.Get(s); e == api.OK {
			found++
		}
		if len(s) < 8 {
			for _, c := range []byte{0, 1, 2, 3} {
				all = append(all, s+string([]byte{c}))
			}
		}
	}
	want := 0
	for _, kind := range kinds {
		for _, l := range shortColumns(kind) {
			if s := modelPut(kind, l); len(s) <= 8 && !strings.ContainsFunc(s, func(c rune) bool { return c > 3 }) {
				want++
			}
		}
	}
	if found != want {
		t.Errorf("%d strings are encodings, want %d", found, want)
	}
}

// shortColumns are all columns of up to three cells, of few different ones.
func shortColumns(kind int) [][]api.Cell {
	of := map[int][]api.Cell{1: {{}}, 2: {{}, truth(0), truth(1)}, 3: {{}, word(""), word("\x00"), word("\x01")}}[kind]
	all := [][]api.Cell{nil}
	for i := 0; i < len(all); i++ {
		if l := all[i]; len(l) < 3 {
			for _, c := range of {
				all = append(all, append(slices.Clone(l), c))
			}
		}
	}
	return all
}

// Rule 3: results are new memory, and arguments stay as they are.
func TestMemory(t *testing.T) {
	for _, kind := range kinds {
		r := rand.New(rand.NewPCG(10, 7))
		backing := append(column(r, kind, 9, 1), api.Cell{Kind: 9, Text: "z"}, api.Cell{Kind: 9})
		before := slices.Clone(backing)
		l := backing[:9]
		s, e := segment.Put(kind, l)
		if want := modelPut(kind, l); e != api.OK || s != want || !slices.Equal(backing, before) {
			t.Errorf("Put with spare capacity: %s, error %d, left %v", hex(s), e, backing)
		}
		_, first, _ := segment.Get(s)
		_, second, _ := segment.Get(s)
		clear(first[:cap(first)])
		if !slices.Equal(second, l) {
			t.Errorf("what another call returned has changed to %v", second)
		}
		clear(l)
		if _, got, e := segment.Get(s); e != api.OK || !slices.Equal(got, before[:9]) {
			t.Errorf("after the argument was changed: %v, error %d", got, e)
		}
	}
}

// Rule 2: no kind beside an error, also if the kind is there.
func TestNothingBesideErrors(t *testing.T) {
	for _, kind := range kinds {
		wantBadZone(t, fmt.Sprintf("kind %d alone", kind), string([]byte{byte(kind)}))
	}
}
