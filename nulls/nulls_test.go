package nulls_test

import (
	"bytes"
	"encoding/binary"
	"fmt"
	"math"
	"math/rand/v2"
	"slices"
	"strings"
	"testing"

	"shadowbook/api"
	"shadowbook/nulls"
)

const most = 4096 // flags of a list

// run is what Runs yields.
type run struct {
	n    int
	flag bool
}

// list are the flags of a string: 1 is true.
func list(s string) []bool {
	l := make([]bool, len(s))
	for i := range l {
		l[i] = s[i] == '1'
	}
	return l
}

// text is a list as a string.
func text(l []bool) string {
	s := make([]byte, len(l))
	for i, v := range l {
		s[i] = '0'
		if v {
			s[i] = '1'
		}
	}
	return string(s)
}

// short is a list as an error shows it.
func short(l []bool) string {
	return fmt.Sprintf("%d flags %s", len(l), text(l[:min(len(l), 40)]))
}

func modelBytes(l []bool) []byte {
	b := binary.AppendUvarint(nil, uint64(len(l)))
	switch s := text(l); {
	case !strings.Contains(s, "1"):
		return append(b, 0)
	case !strings.Contains(s, "0"):
		return append(b, 1)
	}
	packed := make([]byte, (len(l)+7)/8)
	for i, v := range l {
		if v {
			packed[i/8] |= 1 << (i % 8)
		}
	}
	return append(append(b, 2), packed...)
}

func modelPlaces(l []bool) []int {
	s := text(l)
	places := make([]int, len(l))
	for i := range l {
		places[i] = strings.Count(s[:i], "0")
		if l[i] {
			places[i] = -1
		}
	}
	return places
}

func modelRuns(l []bool) []run {
	var all []run
	for i, v := range l {
		if i == 0 || v != l[i-1] {
			all = append(all, run{0, v})
		}
		all[len(all)-1].n++
	}
	return all
}

// got are the runs that Runs yields.
func got(l []bool) []run {
	var all []run
	for n, flag := range nulls.Runs(l) {
		all = append(all, run{n, flag})
	}
	return all
}

// every are all lists of n flags.
func every(n int) [][]bool {
	all := make([][]bool, 0, 1<<n)
	for v := range 1 << n {
		l := make([]bool, n)
		for i := range l {
			l[i] = v>>i&1 == 1
		}
		all = append(all, l)
	}
	return all
}

// lists are those at which an encoding may change.
func lists() [][]bool {
	r := rand.New(rand.NewPCG(8, 1))
	var all [][]bool
	for n := range 12 {
		all = append(all, every(n)...)
	}
	for _, n := range []int{15, 16, 17, 63, 64, 65, 127, 128, 129, 255, 256, 257, 1000, 2047, 2048, 2049, most - 1, most} {
		no, yes := make([]bool, n), slices.Repeat([]bool{true}, n)
		all = append(all, no, yes)
		for _, i := range []int{0, 1, 7, 8, n / 2, n - 9, n - 8, n - 2, n - 1} { // one that is not as the others
			i = max(0, i)
			one, other := slices.Clone(no), slices.Clone(yes)
			one[i], other[i] = true, false
			all = append(all, one, other)
		}
		for _, often := range []int{2, 3, 20} {
			l, stairs := make([]bool, n), make([]bool, n)
			for i := range n {
				l[i] = r.IntN(often) == 0
				stairs[i] = l[i/8*8]
			}
			all = append(all, l, stairs)
		}
	}
	return all
}

// wantPut fails unless the list is put as the document says, and the flags are got again, whatever follows them.
func wantPut(t *testing.T, l []bool) {
	t.Helper()
	want := modelBytes(l)
	b, e := nulls.Put(l)
	if e != api.OK || !bytes.Equal(b, want) {
		t.Errorf("Put of %s: % x, error %d, want % x", short(l), b[:min(len(b), 40)], e, want[:min(len(want), 40)])
		return
	}
	for _, more := range []string{"", "\x00", "\x01", "\xff", "\x80\x80", string(b)} {
		wantGot(t, append(bytes.Clone(b), more...), l, len(b))
	}
}

// wantGot fails unless Get tells those flags, and that their encoding has so many bytes.
func wantGot(t *testing.T, b []byte, l []bool, size int) {
	t.Helper()
	m, n, e := nulls.Get(b)
	if e != api.OK || n != size || !slices.Equal(m, l) {
		t.Errorf("Get of % x: %s of %d bytes, error %d, want %s of %d bytes", b[:min(len(b), 40)], short(m), n, e, short(l), size)
	}
}

// wantBad fails unless Get returns ErrBad, and nothing beside it.
func wantBad(t *testing.T, what string, b []byte) {
	t.Helper()
	if l, n, e := nulls.Get(b); e != api.ErrBad || len(l) != 0 || n != 0 {
		t.Errorf("Get of % x (%s): %s of %d bytes, error %d", b[:min(len(b), 40)], what, short(l), n, e)
	}
}

// wantTrue fails unless bytes are either refused, or begin with those that the document gives to the flags that are got.
func wantTrue(t *testing.T, b []byte) bool {
	t.Helper()
	l, n, e := nulls.Get(b)
	if e != api.OK {
		wantBad(t, "wrong", b)
		return false
	}
	if n < 0 || n > len(b) || len(l) > most || !bytes.Equal(modelBytes(l), b[:n]) {
		t.Errorf("Get of % x: %s of %d bytes, of which these are not the bytes", b[:min(len(b), 40)], short(l), n)
	}
	return true
}

// The chapter's example.
func TestExample(t *testing.T) {
	l := []bool{true, false, true}
	b, e := nulls.Put(l)
	if want := []byte{3, 2, 5}; e != api.OK || !bytes.Equal(b, want) {
		t.Errorf("Put of %v: % x, error %d", l, b, e)
	}
	wantGot(t, b, l, 3)
}

// P8.1
func TestByHand(t *testing.T) {
	for _, c := range []struct {
		l, b  string
		count int
	}{
		{"", "\x00\x00", 0},
		{"0", "\x01\x00", 0},
		{"1", "\x01\x01", 1},
		{"00", "\x02\x00", 0},
		{"11", "\x02\x01", 2},
		{"10", "\x02\x02\x01", 1},
		{"01", "\x02\x02\x02", 1},
		{"110", "\x03\x02\x03", 2},
		{"00000000", "\x08\x00", 0},
		{"11111111", "\x08\x01", 8},
		{"01111111", "\x08\x02\xfe", 7},
		{"00000001", "\x08\x02\x80", 1},
		{"000000001", "\x09\x02\x00\x01", 1},
		{"111111110", "\x09\x02\xff\x00", 8},
		{"1011001110001111", "\x10\x02\xcd\xf1", 10},
		{strings.Repeat("0", 127), "\x7f\x00", 0},
		{strings.Repeat("1", 128), "\x80\x01\x01", 128},
		{strings.Repeat("0", 128) + "1", "\x81\x01\x02" + strings.Repeat("\x00", 16) + "\x01", 1},
		{strings.Repeat("0", most), "\x80\x20\x00", 0},
		{strings.Repeat("1", most), "\x80\x20\x01", most},
		{"0" + strings.Repeat("1", most-1), "\x80\x20\x02\xfe" + strings.Repeat("\xff", most/8-1), most - 1},
	} {
		l := list(c.l)
		b, e := nulls.Put(l)
		if e != api.OK || string(b) != c.b {
			t.Errorf("Put of %s: % x, error %d, want % x", short(l), b, e, c.b)
		}
		wantGot(t, []byte(c.b), l, len(c.b))
		if n := nulls.Count(l); n != c.count {
			t.Errorf("Count of %s: %d, want %d", short(l), n, c.count)
		}
	}
}

// P8.1, P8.2, P8.3
func TestLists(t *testing.T) {
	for _, l := range lists() {
		wantPut(t, l)
		trues := strings.Count(text(l), "1")
		if n := nulls.Count(l); n != trues {
			t.Errorf("Count of %s: %d, want %d", short(l), n, trues)
		}
		if places := nulls.Spread(l, len(l)-trues); !slices.Equal(places, modelPlaces(l)) {
			t.Errorf("Spread of %s: %v", short(l), places[:min(len(places), 40)])
		}
		if runs := got(l); !slices.Equal(runs, modelRuns(l)) {
			t.Errorf("Runs of %s: %v", short(l), runs[:min(len(runs), 40)])
		}
	}
}

// P8.1, P8.2: only Put has a limit.
func TestLong(t *testing.T) {
	for _, n := range []int{most + 1, most + 2, 2 * most, 1 << 16, 1<<16 + 1, 1 << 20} {
		mixed := slices.Repeat([]bool{false, true, true}, n/3+1)[:n]
		for _, l := range [][]bool{make([]bool, n), slices.Repeat([]bool{true}, n), mixed} {
			if b, e := nulls.Put(l); e != api.ErrLong || len(b) != 0 {
				t.Errorf("Put of %s: %d bytes, error %d", short(l), len(b), e)
			}
			trues, values := 0, 0
			places := make([]int, n)
			for i, v := range l {
				if v {
					places[i] = -1
					trues++
				} else {
					places[i] = values
					values++
				}
			}
			if nulls.Count(l) != trues || !slices.Equal(nulls.Spread(l, values), places) || !slices.Equal(got(l), modelRuns(l)) {
				t.Errorf("Count, Spread or Runs of %s", short(l))
			}
		}
	}
}

// P8.1: wrong bytes, named by what is wrong.
func TestBad(t *testing.T) {
	for _, c := range []struct{ what, b string }{
		{"nothing", ""},
		{"a number alone", "\x00"},
		{"a number alone", "\x01"},
		{"a number alone", "\x03"},
		{"a number alone", "\x80\x20"},
		{"half a varint", "\x80"},
		{"half a varint", "\xff\xff"},
		{"a varint too long", "\x80\x00"},
		{"a varint too long", "\x80\x00\x00"},
		{"a varint too long", "\x81\x00\x01"},
		{"a varint too long", "\x83\x00\x02\x05"},
		{"a varint too long", "\x80\xa0\x00\x00"},
		{"a varint of eleven bytes", "\x80\x80\x80\x80\x80\x80\x80\x80\x80\x80\x01\x00"},
		{"a varint of 2^64", "\x80\x80\x80\x80\x80\x80\x80\x80\x80\x02\x00"},
		{"no flags, all true", "\x00\x01"},
		{"no flags, some true", "\x00\x02"},
		{"no flags, some true, and a byte", "\x00\x02\x00"},
		{"no flags, some true, and a byte", "\x00\x02\x01"},
		{"form 3", "\x00\x03"},
		{"form 3", "\x01\x03"},
		{"form 3", "\x03\x03\x05"},
		{"form 128", "\x03\x80\x05"},
		{"form 130", "\x03\x82\x05"},
		{"form 255", "\x03\xff\x05"},
		{"form 255", "\x00\xff"},
		{"no bits", "\x01\x02"},
		{"no bits", "\x03\x02"},
		{"a byte less", "\x09\x02\x01"},
		{"a byte less", "\x10\x02\x01"},
		{"a byte less", "\x11\x02\x01\x00"},
		{"one flag, which is false", "\x01\x02\x00"},
		{"one flag, which is true", "\x01\x02\x01"},
		{"none is true", "\x03\x02\x00"},
		{"none is true", "\x08\x02\x00"},
		{"none is true", "\x09\x02\x00\x00"},
		{"all are true", "\x03\x02\x07"},
		{"all are true", "\x08\x02\xff"},
		{"all are true", "\x09\x02\xff\x01"},
		{"an unused bit", "\x03\x02\x0d"},
		{"an unused bit", "\x03\x02\x85"},
		{"an unused bit", "\x03\x02\x08"},
		{"an unused bit", "\x03\x02\x0f"},
		{"an unused bit", "\x09\x02\x01\x02"},
		{"an unused bit", "\x09\x02\xff\x80"},
		{"an unused bit", "\x07\x02\x81"},
		{"2^32 flags", "\x80\x80\x80\x80\x10\x00"},
		{"2^32 + 3 flags", "\x83\x80\x80\x80\x10\x02\x05"},
		{"2^63 flags", "\x80\x80\x80\x80\x80\x80\x80\x80\x80\x01\x00"},
		{"2^63 flags", "\x80\x80\x80\x80\x80\x80\x80\x80\x80\x01\x01"},
		{"2^64 - 1 flags", "\xff\xff\xff\xff\xff\xff\xff\xff\xff\x01\x00"},
		{"2^64 - 1 flags", "\xff\xff\xff\xff\xff\xff\xff\xff\xff\x01\x01"},
		{"2^64 - 1 flags", "\xff\xff\xff\xff\xff\xff\xff\xff\xff\x01\x02\x01"},
	} {
		wantBad(t, c.what, []byte(c.b))
	}
	wantGot(t, []byte("\x09\x02\xff\x00"), list("111111110"), 4)
	wantGot(t, []byte("\x09\x02\x00\x01\xff"), list("000000001"), 4)
	wantGot(t, []byte("\x00\x00\x02"), nil, 2)
	wantGot(t, []byte("\x03\x00\x05"), list("000"), 2)
	wantGot(t, []byte("\x03\x01\x05"), list("111"), 2)
}

// P8.1: as many flags as there can be, and more.
func TestMost(t *testing.T) {
	for _, n := range []int{most - 1, most, most + 1, most + 2, 2 * most, 1 << 16, 1<<16 + 1} {
		for _, l := range [][]bool{make([]bool, n), slices.Repeat([]bool{true}, n), slices.Repeat([]bool{true, false, false}, n)[:n]} {
			if b := modelBytes(l); n > most {
				wantBad(t, "too many flags", b)
			} else {
				wantGot(t, b, l, len(b))
			}
		}
	}
}

// P8.1, P8.3: what is cut off, what is added, and one byte in place of another.
func TestChangedBytes(t *testing.T) {
	few := append(every(3), slices.Concat(every(8)[100:110], every(9)[:3], every(10)[700:703])...)
	few = append(few, slices.Repeat(list("1"), 200), slices.Repeat(list("0"), 300), slices.Repeat(list("100"), 50))
	for _, l := range few {
		b := modelBytes(l)
		for n := range b {
			wantBad(t, "cut off", b[:n]) // what is missing is in the spare capacity
		}
		for i := range b {
			other := bytes.Clone(b)
			for c := range 256 {
				other[i] = byte(c)
				wantTrue(t, other)
			}
		}
		for c := range 256 {
			wantGot(t, append(bytes.Clone(b), byte(c)), l, len(b))
		}
	}
}

// P8.1: of lists of up to three bytes, and of some longer ones, Get takes those that begin with what Put puts, and no others.
func TestEveryBytes(t *testing.T) {
	taken := 0
	for a := range 256 {
		wantTrue(t, []byte{byte(a)})
		for b := range 256 {
			wantTrue(t, []byte{byte(a), byte(b)})
			for c := range 256 {
				form := b
				if a >= 128 {
					form = c
				}
				if form > 3 && c%32 != 5 {
					continue // of what is no form, a few are enough
				}
				if wantTrue(t, []byte{byte(a), byte(b), byte(c)}) {
					taken++
				}
			}
		}
	}
	want := 128*256 + 127*256 // none and all, of fewer than 128 flags, and anything behind them
	for n := 1; n <= 8; n++ {
		want += 1<<n - 2 // some, in one byte
	}
	for n := 128; n <= most; n++ { // none and all, of so many that their number has two bytes
		want += 2
	}
	if taken != want {
		t.Errorf("%d lists of three bytes are taken, want %d", taken, want)
	}
	for n := range 1 << 16 {
		for _, flags := range []byte{7, 8, 9, 15, 16, 17} {
			wantTrue(t, []byte{flags, 2, byte(n), byte(n >> 8)})
		}
	}
	r := rand.New(rand.NewPCG(8, 2))
	for range 100000 {
		b := binary.AppendUvarint(nil, r.Uint64()>>(48+r.IntN(16)))
		b = append(b, byte(r.IntN(4)))
		for range r.IntN(20) {
			b = append(b, byte(r.Uint64()))
		}
		wantTrue(t, b)
	}
}

// P8.1: what is in the spare capacity doesn't count.
func TestSpareCapacity(t *testing.T) {
	whole := slices.Repeat([]bool{false, true}, most)
	for _, n := range []int{0, 1, 2, 9, most - 1, most} {
		wantPut(t, whole[:n])
		if count := nulls.Count(whole[:n]); count != n/2 {
			t.Errorf("Count of %s: %d", short(whole[:n]), count)
		}
	}
}

// P8.2
func TestSpread(t *testing.T) {
	for _, c := range []struct {
		l      string
		values int
		want   []int
	}{
		{"", 0, nil},
		{"0", 1, []int{0}},
		{"1", 0, []int{-1}},
		{"101", 1, []int{-1, 0, -1}},
		{"000", 3, []int{0, 1, 2}},
		{"111", 0, []int{-1, -1, -1}},
		{"0110010", 4, []int{0, -1, -1, 1, 2, -1, 3}},
		{"1001", 2, []int{-1, 0, 1, -1}},
	} {
		l := list(c.l)
		if places := nulls.Spread(l, c.values); !slices.Equal(places, c.want) {
			t.Errorf("Spread of %s, %d values: %v, want %v", short(l), c.values, places, c.want)
		}
		trues := len(l) - c.values
		for _, other := range []int{-1, 0, 1, 2, 3, 4, 5, 7, trues, len(l), -c.values - 1, c.values - 1, c.values + 1, c.values + 1<<32, 2 * len(l), math.MaxInt, math.MinInt} {
			if places := nulls.Spread(l, other); other != c.values && len(places) != 0 {
				t.Errorf("Spread of %s, %d values: %v, want nothing", short(l), other, places)
			}
		}
	}
}

// P8.2
func TestRuns(t *testing.T) {
	for _, c := range []struct {
		l    string
		want []run
	}{
		{"", nil},
		{"0", []run{{1, false}}},
		{"1", []run{{1, true}}},
		{"110", []run{{2, true}, {1, false}}},
		{"0000", []run{{4, false}}},
		{"10", []run{{1, true}, {1, false}}},
		{"0101", []run{{1, false}, {1, true}, {1, false}, {1, true}}},
		{"0011100000", []run{{2, false}, {3, true}, {5, false}}},
	} {
		if runs := got(list(c.l)); !slices.Equal(runs, c.want) {
			t.Errorf("Runs of %s: %v, want %v", c.l, runs, c.want)
		}
	}
}

// P8.2: one by one: who has enough is given no more, and one iterator can be gone through again, or within itself.
func TestRunsOneByOne(t *testing.T) {
	l := list("1100010110")
	all := nulls.Runs(l)
	want := modelRuns(l)
	for stop := 1; stop <= len(want); stop++ {
		var part []run
		all(func(n int, flag bool) bool {
			part = append(part, run{n, flag})
			return len(part) < stop
		})
		if !slices.Equal(part, want[:stop]) {
			t.Errorf("Runs of %s, stopped after %d: %v", short(l), stop, part)
		}
	}
	outer := 0
	for n, flag := range all {
		if r := (run{n, flag}); r != want[outer] {
			t.Errorf("run %d: %v, want %v", outer, r, want[outer])
		}
		outer++
		inner := 0
		for range all {
			inner++
		}
		if inner != len(want) {
			t.Errorf("%d runs within run %d, want %d", inner, outer, len(want))
		}
	}
	if outer != len(want) {
		t.Errorf("%d runs, want %d", outer, len(want))
	}
}

// Arguments are left alone, with their spare capacity, nothing of them is read later, and no two results share memory.
func TestNewMemory(t *testing.T) {
	for _, s := range []string{"", "0", "1", "000", "1111", "0101", "0011100000"} {
		l := list(s)
		whole := append(slices.Clone(l), true, false, true)
		kept := slices.Clone(whole)
		arg := whole[:len(l)]
		values := strings.Count(s, "0")
		first, _ := nulls.Put(arg)
		second, _ := nulls.Put(arg)
		places, others := nulls.Spread(arg, values), nulls.Spread(arg, values)
		runs := nulls.Runs(arg)
		if nulls.Count(arg) != len(l)-values || !slices.Equal(whole, kept) {
			t.Errorf("%s: the spare capacity was read, or the argument changed", s)
		}
		b := append(bytes.Clone(first), 1, 2, 3)
		spare := bytes.Clone(b)
		flags, _, _ := nulls.Get(b[:len(first)])
		again, _, _ := nulls.Get(b[:len(first)])
		if !bytes.Equal(b, spare) {
			t.Errorf("%s: Get changed its argument", s)
		}
		clear(second[:cap(second)])
		clear(others[:cap(others)])
		for i := range again[:cap(again)] {
			again[:cap(again)][i] = !again[:cap(again)][i]
		}
		clear(b)
		for i := range whole {
			whole[i] = !whole[i]
		}
		if !bytes.Equal(first, modelBytes(l)) || !slices.Equal(places, modelPlaces(l)) || !slices.Equal(flags, l) {
			t.Errorf("%s: results share memory", s)
		}
		var later []run
		for n, flag := range runs {
			later = append(later, run{n, flag})
			clear(whole)
		}
		if !slices.Equal(later, modelRuns(l)) {
			t.Errorf("%s: Runs read its argument later: %v", s, later)
		}
	}
}

// P8.3: with flags that are often, seldom, or as the one before, and anything behind them.
func TestPutThenGet(t *testing.T) {
	r := rand.New(rand.NewPCG(8, 3))
	for range 20000 {
		l := make([]bool, r.IntN(most+1)>>r.IntN(12))
		often, same := 1+r.IntN(40), r.IntN(10)
		for i := range l {
			l[i] = r.IntN(often) == 0
			if i > 0 && r.IntN(10) < same {
				l[i] = l[i-1]
			}
		}
		b, e := nulls.Put(l)
		if e != api.OK {
			t.Fatalf("Put of %s: error %d", short(l), e)
		}
		size := len(b)
		for range r.IntN(8) {
			b = append(b, byte(r.Uint64()))
		}
		wantGot(t, b, l, size)
	}
}
