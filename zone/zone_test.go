package zone_test

import (
	"encoding/binary"
	"math"
	"math/rand/v2"
	"slices"
	"strings"
	"testing"

	"shadowbook/api"
	"shadowbook/zone"
)

const longest = 65536 // bytes of a text

var empty = api.Cell{}

func num(n int64) api.Cell   { return api.Cell{Kind: 1, Int: n} }
func truth(n int64) api.Cell { return api.Cell{Kind: 2, Int: n} }
func word(s string) api.Cell { return api.Cell{Kind: 3, Text: s} }

// odd are cells that are not valid, for another reason than the length of the text.
func odd() []api.Cell {
	return []api.Cell{
		{Kind: 0, Int: 1}, {Kind: 0, Int: -1}, {Kind: 0, Text: "a"}, {Kind: 0, Int: 7, Text: "b"},
		{Kind: 1, Text: "a"}, {Kind: 1, Int: 3, Text: "\x00"},
		{Kind: 2, Int: 2}, {Kind: 2, Int: 3}, {Kind: 2, Int: -1}, {Kind: 2, Int: math.MinInt64}, {Kind: 2, Int: math.MaxInt64}, {Kind: 2, Int: 1, Text: "a"}, {Kind: 2, Text: "1"},
		{Kind: 3, Int: 1}, {Kind: 3, Int: -1, Text: "a"}, {Kind: 3, Int: 1, Text: "a"},
		{Kind: 4}, {Kind: 4, Int: 1}, {Kind: 4, Text: "a"}, {Kind: -1}, {Kind: -1, Int: 5}, {Kind: math.MaxInt}, {Kind: math.MinInt}, {Kind: 1 << 32}, {Kind: 1<<32 + 1},
	}
}

// proper are valid cells.
func proper() []api.Cell {
	return []api.Cell{
		{},
		num(math.MinInt64), num(math.MinInt64 + 1), num(-9), num(-1), num(0), num(1), num(2), num(3), num(5), num(1 << 40), num(math.MaxInt64),
		truth(0), truth(1),
		word(""), word("\x00"), word("a"), word("a\x00"), word("aa"), word("ab"), word("b"), word("é"), word("z"), word("\x7f"), word("\x80"), word("\xff"), word("\xff\xfe"), word(strings.Repeat("a", longest)),
	}
}

func cells() []api.Cell { return append(proper(), odd()...) }

// key is a string by whose bytes cells are ordered.
func key(c api.Cell) string {
	b := binary.BigEndian.AppendUint64(nil, uint64(c.Kind)^1<<63)
	b = binary.BigEndian.AppendUint64(b, uint64(c.Int)^1<<63)
	return string(b) + c.Text
}

func modelCompare(a, b api.Cell) int {
	switch ka, kb := key(a), key(b); {
	case ka < kb:
		return -1
	case ka > kb:
		return 1
	}
	return 0
}

func modelIs(op int, a, b api.Cell) bool {
	signs := map[int]string{1: "=", 2: "<>", 3: "<", 4: "<=", 5: ">", 6: ">="}
	sign := []string{"<", "=", ">"}[modelCompare(a, b)+1]
	return a.Kind == b.Kind && a.Kind != 0 && strings.Contains(signs[op], sign)
}

func modelOf(l []api.Cell) api.Zone {
	rest := slices.DeleteFunc(slices.Clone(l), func(c api.Cell) bool { return c.Kind == 0 })
	slices.SortFunc(rest, modelCompare)
	z := api.Zone{Count: len(l), Nulls: len(l) - len(rest)}
	if len(rest) > 0 {
		z.Min, z.Max = rest[0], rest[len(rest)-1]
	}
	return z
}

func modelMay(z api.Zone, op int, c api.Cell) bool {
	if c.Kind == 0 || z.Count == z.Nulls || c.Kind != z.Min.Kind {
		return false
	}
	switch op {
	case 1:
		return modelCompare(c, z.Min) >= 0 && modelCompare(c, z.Max) <= 0
	case 2:
		return modelCompare(c, z.Min) != 0 || modelCompare(c, z.Max) != 0
	case 3, 4:
		return modelIs(op, z.Min, c)
	case 5, 6:
		return modelIs(op, z.Max, c)
	}
	return false
}

// short is a cell as an error shows it.
func short(c api.Cell) api.Cell {
	c.Text = c.Text[:min(len(c.Text), 20)]
	return c
}

// shortZone is a zone as an error shows it.
func shortZone(z api.Zone) api.Zone {
	z.Min, z.Max = short(z.Min), short(z.Max)
	return z
}

// ops are all comparisons, and some that do not exist.
func ops() []int {
	return []int{api.CmpEq, api.CmpNe, api.CmpLt, api.CmpLe, api.CmpGt, api.CmpGe, 0, -1, -2, 7, 8, 1 << 32, 1<<32 + 1, math.MaxInt, math.MinInt}
}

// column is up to n cells of that kind, some of them null; few different ones, so that equal ones come up.
func column(r *rand.Rand, kind, n int) []api.Cell {
	l := make([]api.Cell, r.IntN(n+1))
	nulls := r.IntN(4)
	for i := range l {
		if r.IntN(4) < nulls {
			continue
		}
		l[i] = one(r, kind)
	}
	return l
}

// one is a valid cell of that kind.
func one(r *rand.Rand, kind int) api.Cell {
	switch kind {
	case 1:
		return num([]int64{r.Int64N(7) - 3, r.Int64N(1000), int64(r.Uint64())}[r.IntN(3)])
	case 2:
		return truth(r.Int64N(2))
	}
	return word(strings.Repeat(string([]byte{byte(r.IntN(3)) + 'a'}), r.IntN(3)) + string([]byte{byte(r.IntN(256))}))
}

// P9.1: the order of cells, valid or not.
func TestCompare(t *testing.T) {
	for _, a := range cells() {
		for _, b := range cells() {
			if got, want := zone.Compare(a, b), modelCompare(a, b); got != want {
				t.Errorf("Compare(%v, %v) = %d, want %d", short(a), short(b), got, want)
			}
		}
	}
}

// P9.1: by Kind first, then by Int, then by Text, byte by byte; cells that rise.
func TestOrder(t *testing.T) {
	rising := []api.Cell{
		{Kind: math.MinInt, Int: 9, Text: "z"}, {Kind: -1, Int: 9}, {},
		{Kind: 0, Text: "z"}, {Kind: 0, Int: 1},
		num(math.MinInt64), num(-1), {Kind: 1, Int: -1, Text: "z"}, num(0), num(1), num(math.MaxInt64),
		truth(0), truth(1), word(""), word("a"), word("aa"), word("b"), word("\x80"), {Kind: 3, Int: 1}, {Kind: 4}, {Kind: math.MaxInt},
	}
	for i, a := range rising {
		for j, b := range rising {
			want := 0
			switch {
			case i < j:
				want = -1
			case i > j:
				want = 1
			}
			if got := zone.Compare(a, b); got != want {
				t.Errorf("Compare(%v, %v) = %d, want %d", a, b, got, want)
			}
		}
	}
}

// P9.1: texts that differ only behind many equal bytes.
func TestCompareLongTexts(t *testing.T) {
	s := strings.Repeat("a", longest)
	for _, c := range []struct {
		a, b string
		want int
	}{{s + "a", s + "b", -1}, {s + "b", s + "a", 1}, {s, s + "\x00", -1}, {s, strings.Clone(s), 0}} {
		if got := zone.Compare(word(c.a), word(c.b)); got != c.want {
			t.Errorf("texts of %d and %d bytes: %d, want %d", len(c.a), len(c.b), got, c.want)
		}
	}
}

// P9.1: valid cells.
func TestCellOK(t *testing.T) {
	for _, c := range append(proper(), word(strings.Repeat("\xff", longest-1))) {
		if e := zone.Cell(c); e != api.OK {
			t.Errorf("Cell(%v) = %d", short(c), e)
		}
	}
}

// P9.1: cells that are not valid.
func TestCellArg(t *testing.T) {
	for _, c := range odd() {
		if e := zone.Cell(c); e != api.ErrArg {
			t.Errorf("Cell(%v) = %d, want ErrArg", c, e)
		}
	}
	for _, c := range []api.Cell{{Kind: 1, Text: strings.Repeat("a", longest)}, {Kind: 3, Int: 1, Text: strings.Repeat("a", longest)}} {
		if e := zone.Cell(c); e != api.ErrArg {
			t.Errorf("Cell(%v) = %d, want ErrArg", short(c), e)
		}
	}
}

// P9.1 and rule 1: a text that is too long comes before all else that is wrong.
func TestCellLong(t *testing.T) {
	for _, kind := range []int{0, 1, 2, 3, 4, -1, math.MaxInt} {
		for _, n := range []int64{0, 1, 2, -1} {
			for _, more := range []int{1, 2, longest} {
				c := api.Cell{Kind: kind, Int: n, Text: strings.Repeat("a", longest+more)}
				if e := zone.Cell(c); e != api.ErrLong {
					t.Errorf("Cell(%v) = %d, want ErrLong", short(c), e)
				}
			}
		}
	}
}

// P9.1: each comparison, of each two cells.
func TestIs(t *testing.T) {
	for _, a := range cells() {
		for _, b := range cells() {
			for _, op := range ops() {
				if got, want := zone.Is(op, a, b), modelIs(op, a, b); got != want {
					t.Errorf("Is(%d, %v, %v) = %v", op, short(a), short(b), got)
				}
			}
		}
	}
}

// P9.1: the comparisons, written out.
func TestIsTable(t *testing.T) {
	for _, c := range []struct {
		a, b api.Cell
		want string
	}{
		{num(2), num(5), "<>,<,<="},
		{num(5), num(5), "=,<=,>="},
		{num(7), num(5), "<>,>,>="},
		{truth(0), truth(1), "<>,<,<="},
		{truth(1), truth(1), "=,<=,>="},
		{word("b"), word("a"), "<>,>,>="},
		{word(""), word("a"), "<>,<,<="},
		{word("a"), word("a"), "=,<=,>="},
		{num(0), truth(0), ""},
		{num(5), word("5"), ""},
		{truth(0), word(""), ""},
		{empty, empty, ""},
		{empty, num(0), ""},
		{num(0), empty, ""},
	} {
		var got []string
		for i, name := range []string{"=", "<>", "<", "<=", ">", ">="} {
			if zone.Is(i+1, c.a, c.b) {
				got = append(got, name)
			}
		}
		if s := strings.Join(got, ","); s != c.want {
			t.Errorf("%v and %v: %q, want %q", c.a, c.b, s, c.want)
		}
	}
}

// P9.1: zones, written out.
func TestOf(t *testing.T) {
	for _, c := range []struct {
		l    []api.Cell
		want api.Zone
	}{
		{nil, api.Zone{}},
		{[]api.Cell{}, api.Zone{}},
		{[]api.Cell{{}}, api.Zone{Count: 1, Nulls: 1}},
		{[]api.Cell{{}, {}, {}}, api.Zone{Count: 3, Nulls: 3}},
		{[]api.Cell{num(3), {}, num(5)}, api.Zone{Count: 3, Nulls: 1, Min: num(3), Max: num(5)}},
		{[]api.Cell{num(5), num(3)}, api.Zone{Count: 2, Min: num(3), Max: num(5)}},
		{[]api.Cell{{}, {}, num(0)}, api.Zone{Count: 3, Nulls: 2, Min: num(0), Max: num(0)}},
		{[]api.Cell{num(-1), {}, {}}, api.Zone{Count: 3, Nulls: 2, Min: num(-1), Max: num(-1)}},
		{[]api.Cell{num(math.MaxInt64), num(0), num(math.MinInt64)}, api.Zone{Count: 3, Min: num(math.MinInt64), Max: num(math.MaxInt64)}},
		{[]api.Cell{truth(1), truth(0)}, api.Zone{Count: 2, Min: truth(0), Max: truth(1)}},
		{[]api.Cell{truth(0), {}}, api.Zone{Count: 2, Nulls: 1, Min: truth(0), Max: truth(0)}},
		{[]api.Cell{word("b"), word(""), word("aa"), {}}, api.Zone{Count: 4, Nulls: 1, Min: word(""), Max: word("b")}},
		{[]api.Cell{word("a"), num(9), truth(0)}, api.Zone{Count: 3, Min: num(9), Max: word("a")}},
		{[]api.Cell{{Kind: 0, Int: 5}, {Kind: 0, Text: "a"}}, api.Zone{Count: 2, Nulls: 2}},
		{[]api.Cell{{Kind: -3}, num(1), {Kind: 9, Text: "z"}}, api.Zone{Count: 3, Min: api.Cell{Kind: -3}, Max: api.Cell{Kind: 9, Text: "z"}}},
	} {
		if z := zone.Of(c.l); z != c.want {
			t.Errorf("Of(%v) = %v, want %v", c.l, z, c.want)
		}
	}
}

// P9.1: the zone of any cells, also of more than a segment has, and of texts that are too long.
func TestOfAny(t *testing.T) {
	r := rand.New(rand.NewPCG(9, 1))
	all := append(cells(), word(strings.Repeat("a", longest+1)))
	for range 500 {
		l := make([]api.Cell, r.IntN(6))
		for i := range l {
			l[i] = all[r.IntN(len(all))]
		}
		if z, want := zone.Of(l), modelOf(l); z != want {
			t.Fatalf("%d cells: %v, want %v", len(l), shortZone(z), shortZone(want))
		}
	}
	l := make([]api.Cell, 70000)
	for i := range l {
		l[i] = num(int64(i * 7919 % 70001))
	}
	l[1], l[69999] = empty, empty
	if z, want := zone.Of(l), modelOf(l); z != want {
		t.Errorf("%d cells: %v, want %v", len(l), z, want)
	}
}

// P9.2: the chapter's example, and its neighbours.
func TestMayExample(t *testing.T) {
	z := zone.Of([]api.Cell{num(3), {}, num(5)})
	for _, c := range []struct {
		op   int
		want string // for the numbers 2 to 6
	}{
		{api.CmpEq, "01110"},
		{api.CmpNe, "11111"},
		{api.CmpLt, "00111"},
		{api.CmpLe, "01111"},
		{api.CmpGt, "11100"},
		{api.CmpGe, "11110"},
		{0, "00000"},
		{7, "00000"},
	} {
		for i, v := range c.want {
			if got := zone.May(z, c.op, num(int64(i+2))); got != (v == '1') {
				t.Errorf("May %d %d = %v", c.op, i+2, got)
			}
		}
	}
}

// P9.2: Ne asks whether there may be another cell than that one.
func TestMayNe(t *testing.T) {
	for _, c := range []struct {
		min, max, c api.Cell
		want        bool
	}{
		{num(4), num(4), num(4), false},
		{num(4), num(4), num(5), true},
		{num(4), num(5), num(4), true},
		{num(4), num(5), num(5), true},
		{word("a"), word("a"), word("a"), false},
		{word("a"), word("a"), word("aa"), true},
		{truth(0), truth(1), truth(1), true},
		{truth(1), truth(1), truth(1), false},
	} {
		z := api.Zone{Count: 3, Nulls: 1, Min: c.min, Max: c.max}
		if got := zone.May(z, api.CmpNe, c.c); got != c.want {
			t.Errorf("from %v to %v, other than %v: %v", c.min, c.max, c.c, got)
		}
	}
}

// P9.2: null, nothing but nulls, other kinds: false, whatever is asked.
func TestMayNothing(t *testing.T) {
	few := api.Zone{Count: 3, Nulls: 1, Min: num(3), Max: num(5)}
	for _, c := range []struct {
		why string
		z   api.Zone
		c   api.Cell
	}{
		{"null", few, empty},
		{"null with a number", few, api.Cell{Int: 4}},
		{"a null as Min", api.Zone{Count: 3, Nulls: 1}, empty},
		{"a null with a number as Min", api.Zone{Count: 3, Min: api.Cell{Int: 3}, Max: api.Cell{Int: 5}}, api.Cell{Int: 4}},
		{"nothing but nulls", zone.Of([]api.Cell{{}, {}}), num(4)},
		{"no cells", api.Zone{}, num(4)},
		{"Count equals Nulls, although there is a Min", api.Zone{Count: 2, Nulls: 2, Min: num(3), Max: num(5)}, num(4)},
		{"another kind", few, truth(1)},
		{"another kind, between Min and Max", api.Zone{Count: 2, Min: num(3), Max: word("a")}, truth(1)},
		{"the kind of Max alone", api.Zone{Count: 2, Min: num(3), Max: word("a")}, word("a")},
		{"an unknown kind", few, api.Cell{Kind: 9}},
	} {
		for _, op := range ops() {
			if zone.May(c.z, op, c.c) {
				t.Errorf("%s: May %d is true", c.why, op)
			}
		}
	}
}

// P9.2: a zone need not be valid.
func TestMayAny(t *testing.T) {
	all := append(cells(), num(4), word(strings.Repeat("a", longest+1)))
	r := rand.New(rand.NewPCG(9, 2))
	numbers := []int{0, 1, 2, -1, math.MaxInt, math.MinInt}
	pick := func(kind int) api.Cell {
		for {
			if c := all[r.IntN(len(all))]; r.IntN(8) == 0 || c.Kind == kind {
				return c
			}
		}
	}
	for range 20000 {
		kind := r.IntN(5)
		z := api.Zone{Count: numbers[r.IntN(len(numbers))], Nulls: numbers[r.IntN(len(numbers))], Min: pick(kind), Max: pick(kind)}
		c := pick(kind)
		for _, op := range ops() {
			if got, want := zone.May(z, op, c), modelMay(z, op, c); got != want {
				t.Fatalf("May(%v, %d, %v) = %v", shortZone(z), op, short(c), got)
			}
		}
	}
}

// P9.2: zones together.
func TestJoin(t *testing.T) {
	few := api.Zone{Count: 3, Nulls: 1, Min: num(3), Max: num(5)}
	for _, c := range []struct {
		why        string
		a, b, want api.Zone
	}{
		{"nothing", api.Zone{}, api.Zone{}, api.Zone{}},
		{"nothing before", api.Zone{}, few, few},
		{"nothing behind", few, api.Zone{}, few},
		{"nulls before", api.Zone{Count: 2, Nulls: 2}, few, api.Zone{Count: 5, Nulls: 3, Min: num(3), Max: num(5)}},
		{"nulls behind", few, api.Zone{Count: 2, Nulls: 2}, api.Zone{Count: 5, Nulls: 3, Min: num(3), Max: num(5)}},
		{"smaller ones", few, api.Zone{Count: 1, Min: num(1), Max: num(2)}, api.Zone{Count: 4, Nulls: 1, Min: num(1), Max: num(5)}},
		{"greater ones", few, api.Zone{Count: 1, Min: num(8), Max: num(9)}, api.Zone{Count: 4, Nulls: 1, Min: num(3), Max: num(9)}},
		{"ones within", few, api.Zone{Count: 2, Nulls: 1, Min: num(4), Max: num(4)}, api.Zone{Count: 5, Nulls: 2, Min: num(3), Max: num(5)}},
		{"ones around", few, api.Zone{Count: 2, Min: num(-4), Max: num(40)}, api.Zone{Count: 5, Nulls: 1, Min: num(-4), Max: num(40)}},
		{"equal ones", few, few, api.Zone{Count: 6, Nulls: 2, Min: num(3), Max: num(5)}},
		{"other kinds", few, api.Zone{Count: 1, Min: truth(0), Max: word("")}, api.Zone{Count: 4, Nulls: 1, Min: num(3), Max: word("")}},
		{"texts", api.Zone{Count: 1, Min: word("b"), Max: word("b")}, api.Zone{Count: 1, Min: word("a"), Max: word("bb")}, api.Zone{Count: 2, Min: word("a"), Max: word("bb")}},
		{"a zone of nulls with a Min before", api.Zone{Count: 2, Nulls: 2, Min: num(1), Max: num(9)}, few, api.Zone{Count: 5, Nulls: 3, Min: num(3), Max: num(5)}},
		{"a zone of nulls with a Min behind", few, api.Zone{Count: 2, Nulls: 2, Min: num(1), Max: num(9)}, api.Zone{Count: 5, Nulls: 3, Min: num(3), Max: num(5)}},
		{"two zones of nulls with a Min", api.Zone{Count: 1, Nulls: 1, Min: num(1), Max: num(2)}, api.Zone{Count: 2, Nulls: 2, Min: num(7), Max: num(6)}, api.Zone{Count: 3, Nulls: 3, Min: num(7), Max: num(6)}},
		{"nulls behind a zone of nulls with a Min", api.Zone{Count: 1, Nulls: 1, Min: num(1), Max: num(2)}, api.Zone{Count: 1, Nulls: 1}, api.Zone{Count: 2, Nulls: 2}},
		{"the sums of both are equal", api.Zone{Count: 1, Nulls: 2, Min: num(1), Max: num(2)}, api.Zone{Count: 2, Nulls: 1, Min: num(0), Max: num(1)}, api.Zone{Count: 3, Nulls: 3, Min: num(0), Max: num(2)}},
		{"negative numbers", api.Zone{Count: -1, Nulls: 0, Min: num(1), Max: num(2)}, api.Zone{Count: 0, Nulls: -5, Min: num(0), Max: num(1)}, api.Zone{Count: -1, Nulls: -5, Min: num(0), Max: num(2)}},
		{"Min greater than Max", api.Zone{Count: 1, Min: num(5), Max: num(3)}, api.Zone{Count: 1, Min: num(4), Max: num(2)}, api.Zone{Count: 2, Min: num(4), Max: num(3)}},
		{"great numbers", api.Zone{Count: 1 << 31, Nulls: 1 << 30, Min: num(1), Max: num(1)}, api.Zone{Count: 1 << 31, Nulls: 1 << 31}, api.Zone{Count: 1 << 32, Nulls: 3 << 30, Min: num(1), Max: num(1)}},
	} {
		if z := zone.Join(c.a, c.b); z != c.want {
			t.Errorf("%s: %v, want %v", c.why, z, c.want)
		}
	}
}

// P9.2: valid zones.
func TestCheckOK(t *testing.T) {
	for _, c := range []struct {
		kind int
		z    api.Zone
	}{
		{api.KindInt, api.Zone{Count: 3, Nulls: 1, Min: num(3), Max: num(5)}},
		{api.KindInt, api.Zone{Count: 1, Min: num(math.MinInt64), Max: num(math.MaxInt64)}},
		{api.KindInt, api.Zone{Count: math.MaxInt, Nulls: math.MaxInt - 1, Min: num(4), Max: num(4)}},
		{api.KindBool, api.Zone{Count: 2, Min: truth(0), Max: truth(1)}},
		{api.KindBool, api.Zone{Count: 2, Min: truth(1), Max: truth(1)}},
		{api.KindText, api.Zone{Count: 2, Nulls: 1, Min: word(""), Max: word(strings.Repeat("z", longest))}},
	} {
		if e := zone.Check(c.z, c.kind); e != api.OK {
			t.Errorf("Check(%v, %d) = %d", shortZone(c.z), c.kind, e)
		}
	}
	for kind := api.KindInt; kind <= api.KindText; kind++ {
		for _, n := range []int{0, 1, 4096, math.MaxInt} {
			if e := zone.Check(api.Zone{Count: n, Nulls: n}, kind); e != api.OK {
				t.Errorf("%d nulls of kind %d: %d", n, kind, e)
			}
		}
	}
}

// P9.2: zones that are not valid, or of another kind.
func TestCheckArg(t *testing.T) {
	long := word(strings.Repeat("a", longest+1))
	for _, c := range []struct {
		why  string
		kind int
		z    api.Zone
	}{
		{"another kind", api.KindBool, api.Zone{Count: 1, Min: num(1), Max: num(1)}},
		{"another kind", api.KindInt, api.Zone{Count: 1, Min: truth(1), Max: truth(1)}},
		{"another kind", api.KindText, api.Zone{Count: 1, Min: num(1), Max: num(1)}},
		{"Min of another kind", api.KindText, api.Zone{Count: 2, Min: num(1), Max: word("")}},
		{"Max of another kind", api.KindInt, api.Zone{Count: 2, Min: num(1), Max: truth(1)}},
		{"Min is null", api.KindInt, api.Zone{Count: 2, Max: num(1)}},
		{"Max is null", api.KindInt, api.Zone{Count: 2, Min: num(1)}},
		{"both are null", api.KindInt, api.Zone{Count: 2, Nulls: 1}},
		{"fewer cells than nulls", api.KindInt, api.Zone{Count: 1, Nulls: 2, Min: num(1), Max: num(1)}},
		{"fewer cells than nulls, no Min", api.KindInt, api.Zone{Count: 1, Nulls: 2}},
		{"a negative number of nulls", api.KindInt, api.Zone{Count: 1, Nulls: -1, Min: num(1), Max: num(1)}},
		{"negative numbers", api.KindInt, api.Zone{Count: -1, Nulls: -1}},
		{"negative numbers", api.KindInt, api.Zone{Count: -1, Nulls: -2, Min: num(1), Max: num(1)}},
		{"a negative number of cells", api.KindInt, api.Zone{Count: -1, Min: num(1), Max: num(1)}},
		{"the smallest number of cells", api.KindInt, api.Zone{Count: math.MinInt, Nulls: math.MaxInt}},
		{"nothing but nulls, with a Min", api.KindInt, api.Zone{Count: 2, Nulls: 2, Min: num(1), Max: num(1)}},
		{"nothing but nulls, with a Min alone", api.KindInt, api.Zone{Count: 2, Nulls: 2, Min: num(0)}},
		{"nothing but nulls, with a Max alone", api.KindInt, api.Zone{Count: 2, Nulls: 2, Max: num(0)}},
		{"nothing but nulls, with a number in Min", api.KindInt, api.Zone{Count: 2, Nulls: 2, Min: api.Cell{Int: 1}}},
		{"nothing but nulls, with a text in Max", api.KindText, api.Zone{Count: 2, Nulls: 2, Max: api.Cell{Text: "a"}}},
		{"no cells, with a Min", api.KindText, api.Zone{Min: word("")}},
		{"Min greater than Max", api.KindInt, api.Zone{Count: 2, Min: num(2), Max: num(1)}},
		{"Min greater than Max", api.KindBool, api.Zone{Count: 2, Min: truth(1), Max: truth(0)}},
		{"Min greater than Max", api.KindText, api.Zone{Count: 2, Min: word("aa"), Max: word("a")}},
		{"an int with a text as Min", api.KindInt, api.Zone{Count: 2, Min: api.Cell{Kind: 1, Text: "a"}, Max: num(1)}},
		{"an int with a text as Max", api.KindInt, api.Zone{Count: 2, Min: num(1), Max: api.Cell{Kind: 1, Int: 2, Text: "a"}}},
		{"a bool of -1 as Min", api.KindBool, api.Zone{Count: 2, Min: truth(-1), Max: truth(1)}},
		{"a bool of 2 as Max", api.KindBool, api.Zone{Count: 2, Min: truth(0), Max: truth(2)}},
		{"a text with a number as Min", api.KindText, api.Zone{Count: 2, Min: api.Cell{Kind: 3, Int: -1}, Max: word("a")}},
		{"a text with a number as Max", api.KindText, api.Zone{Count: 2, Min: word("a"), Max: api.Cell{Kind: 3, Int: 1}}},
		{"a text that is too long as Min", api.KindText, api.Zone{Count: 2, Min: long, Max: word("b")}},
		{"a text that is too long as Max", api.KindText, api.Zone{Count: 2, Min: word("a"), Max: long}},
	} {
		if e := zone.Check(c.z, c.kind); e != api.ErrArg {
			t.Errorf("%s: %d, want ErrArg", c.why, e)
		}
	}
}

// P9.2: there are zones of ints, bools and texts alone.
func TestCheckKinds(t *testing.T) {
	for _, kind := range []int{api.KindNull, 4, 5, -1, 1<<32 + 1, math.MaxInt, math.MinInt} {
		c := api.Cell{Kind: kind}
		for _, z := range []api.Zone{{}, {Count: 1, Nulls: 1}, {Count: 1, Min: c, Max: c}, {Count: 2, Nulls: 1, Min: num(1), Max: num(1)}} {
			if e := zone.Check(z, kind); e != api.ErrArg {
				t.Errorf("Check(%v, %d) = %d, want ErrArg", z, kind, e)
			}
		}
	}
}

// P9.1 and P9.2: the zone of a column is a valid one of its kind, and of no other unless all its cells are null.
func TestCheckOf(t *testing.T) {
	r := rand.New(rand.NewPCG(9, 3))
	for range 1000 {
		kind := 1 + r.IntN(3)
		z := zone.Of(column(r, kind, 5))
		for k := 1; k <= 3; k++ {
			want := api.OK
			if k != kind && z.Count > z.Nulls {
				want = api.ErrArg
			}
			if e := zone.Check(z, k); e != want {
				t.Fatalf("Check(%v, %d) = %d, want %d", z, k, e, want)
			}
		}
	}
}

// P9.3: what holds for a cell of a column is possible by its zone.
func TestMayHolds(t *testing.T) {
	r := rand.New(rand.NewPCG(9, 4))
	held := 0
	for range 2000 {
		kind := 1 + r.IntN(3)
		l := column(r, kind, 5)
		z := zone.Of(l)
		for _, c := range append(column(r, kind, 3), append(slices.Clone(l), one(r, 1+r.IntN(3)))...) {
			for op := api.CmpEq; op <= api.CmpGe; op++ {
				if !slices.ContainsFunc(l, func(a api.Cell) bool { return zone.Is(op, a, c) }) {
					continue
				}
				held++
				if !zone.May(z, op, c) {
					t.Fatalf("%v has a cell for comparison %d with %v, but May is false", l, op, c)
				}
			}
		}
	}
	if held < 10000 {
		t.Errorf("only %d comparisons held", held)
	}
}

// P9.3: for the comparisons by order, what is possible by the zone holds for a cell of the column.
func TestMayTight(t *testing.T) {
	r := rand.New(rand.NewPCG(9, 5))
	for range 2000 {
		kind := 1 + r.IntN(3)
		l := column(r, kind, 5)
		z := zone.Of(l)
		c := one(r, kind)
		for op := api.CmpNe; op <= api.CmpGe; op++ {
			holds := slices.ContainsFunc(l, func(a api.Cell) bool { return zone.Is(op, a, c) })
			if got := zone.May(z, op, c); got != holds {
				t.Fatalf("%v, comparison %d with %v: May is %v", l, op, c, got)
			}
		}
	}
}

// P9.3: the zone of two columns together is the Join of their zones; of any cells.
func TestJoinOf(t *testing.T) {
	r := rand.New(rand.NewPCG(9, 6))
	all := cells()
	for i := range 3000 {
		kind := 1 + r.IntN(3)
		a, b := column(r, kind, 4), column(r, kind, 4)
		if i%3 == 0 {
			for _, l := range [][]api.Cell{a, b} {
				for j := range l {
					l[j] = all[r.IntN(len(all))]
				}
			}
		}
		if got, want := zone.Join(zone.Of(a), zone.Of(b)), zone.Of(slices.Concat(a, b)); got != want || want != modelOf(slices.Concat(a, b)) {
			t.Fatalf("%d and %d cells: Join is %v, Of %v", len(a), len(b), shortZone(got), shortZone(want))
		}
	}
}

// Rule 3: the cells that Of gets are not changed, and what is behind them is not read.
func TestArguments(t *testing.T) {
	long := []api.Cell{num(4), {}, num(2), num(-100), word("z"), {}}
	before := slices.Clone(long)
	want := api.Zone{Count: 3, Nulls: 1, Min: num(2), Max: num(4)}
	z := zone.Of(long[:3])
	if z != want || !slices.Equal(long, before) {
		t.Errorf("%v, then the cells are %v", z, long)
	}
	clear(long)
	if z != want {
		t.Errorf("changed with the cells: %v", z)
	}
	if n := zone.Of(long[:0]); n != (api.Zone{}) {
		t.Errorf("no cells: %v", n)
	}
}

// Rule 6: a call depends on its arguments alone.
func TestAgain(t *testing.T) {
	l := []api.Cell{word("b"), {}, word("a")}
	for range 3 {
		z := zone.Of(l)
		if z != zone.Of(l) || zone.Join(z, z) != zone.Join(z, z) || !zone.May(z, api.CmpGe, word("b")) || zone.May(z, api.CmpGt, word("b")) {
			t.Fatal(z)
		}
	}
}
