package texts_test

import (
	"bytes"
	"encoding/binary"
	"fmt"
	"math/bits"
	"math/rand/v2"
	"slices"
	"strings"
	"testing"

	"shadowbook/api"
	"shadowbook/texts"
)

const (
	most    = 4096  // strings of a column
	longest = 65536 // bytes of a string
)

// way is a function that puts columns, and what the document says of its bytes.
type way struct {
	name string
	put  func([]string) ([]byte, api.Errno)
	want func([]string) []byte
}

var ways = []way{
	{"Plain", texts.Plain, modelPlain},
	{"Dict", texts.Dict, modelDict},
	{"Put", texts.Put, modelPut},
}

// sized is a string behind its length.
func sized(s string) string {
	return string(binary.AppendUvarint(nil, uint64(len(s)))) + s
}

func head(form byte, l []string) []byte {
	return binary.AppendUvarint([]byte{form}, uint64(len(l)))
}

func modelPlain(l []string) []byte {
	b := head(1, l)
	for _, s := range l {
		b = append(b, sized(s)...)
	}
	return b
}

func modelWords(l []string) []string {
	words := slices.Clone(l)
	slices.SortFunc(words, func(a, b string) int {
		return bytes.Compare([]byte(a), []byte(b))
	})
	return slices.Compact(words)
}

func modelDict(l []string) []byte {
	words := modelWords(l)
	width := bits.Len(uint(max(len(words), 1) - 1))
	packed := make([]byte, (len(l)*width+7)/8)
	for i, s := range l {
		index, _ := slices.BinarySearch(words, s)
		for k := range width {
			packed[(i*width+k)/8] |= byte(index>>k&1) << ((i*width + k) % 8)
		}
	}
	b := binary.AppendUvarint(head(2, l), uint64(len(words)))
	for _, w := range words {
		b = append(b, sized(w)...)
	}
	return append(append(b, byte(width)), packed...)
}

func modelPut(l []string) []byte {
	if b := modelDict(l); len(b) < len(modelPlain(l)) {
		return b
	}
	return modelPlain(l)
}

// numbered are n strings of different contents, in ascending order.
func numbered(n int) []string {
	l := make([]string, n)
	for i := range l {
		l[i] = fmt.Sprintf("%04x", i)
	}
	return l
}

// mixed are the strings, again and again, in an order by chance.
func mixed(words []string, n int, r *rand.Rand) []string {
	l := make([]string, n)
	for i := range l {
		l[i] = words[i%len(words)]
	}
	r.Shuffle(n, func(i, k int) { l[i], l[k] = l[k], l[i] })
	return l
}

// columns are those at which an encoding may change.
func columns() [][]string {
	r := rand.New(rand.NewPCG(7, 1))
	all := [][]string{
		nil, {""}, {"", ""}, {"\x00"}, {"", "\x00"}, {"a", "", "a"}, {"a", "ab", "abc", "ab", ""}, {"\xff", "\x00", "\x7f", "\x80"},
		{"é", "z", "e", "\xc3"}, {"\xed\xa0\x80", "\xff\xfe", "\U0010ffff"}, {"B", "a", "A", "b"}, {"10", "9", "1"}, {"a\x00", "a", "a\x00\x00"},
	}
	for _, n := range []int{1, 2, 3, 7, 8, 9, 127, 128, 129, 255, 256, 1000, most - 1, most} {
		for _, words := range []int{1, 2, 3, 4, 5, 8, 9, 16, 17, 127, 128, 129, 255, 256, 257, 2048, 2049, most - 1, most} {
			if words <= n {
				all = append(all, mixed(numbered(words), n, r))
			}
		}
	}
	for _, n := range []int{126, 127, 128, 129, 16383, 16384, 16385, longest - 1, longest} { // lengths at which the varint becomes longer
		s := strings.Repeat("s", n)
		all = append(all, []string{s}, []string{s, s}, []string{s, "", s[1:], s})
	}
	return all
}

// small are all columns of up to that many of the strings.
func small(n int, of ...string) [][]string {
	all := [][]string{nil}
	for from := 0; n > 0; n-- {
		to := len(all)
		for _, l := range all[from:to] {
			for _, s := range of {
				all = append(all, append(slices.Clone(l), s))
			}
		}
		from = to
	}
	return all
}

// short is a column as an error shows it.
func short(l []string) string {
	out := fmt.Sprintf("%d strings", len(l))
	for _, s := range l[:min(len(l), 8)] {
		out += fmt.Sprintf(" %.20q", s)
	}
	return out
}

// wantPut fails unless each way puts the column as the document says, and the strings are got again.
func wantPut(t *testing.T, l []string) {
	t.Helper()
	for _, w := range ways {
		want := w.want(l)
		b, e := w.put(l)
		if e != api.OK || !bytes.Equal(b, want) {
			t.Errorf("%s of %s: % x, error %d, want % x", w.name, short(l), b[:min(len(b), 40)], e, want[:min(len(want), 40)])
			continue
		}
		wantGot(t, b, l)
	}
	if words := texts.Words(l); !slices.Equal(words, modelWords(l)) {
		t.Errorf("Words of %s: %s", short(l), short(words))
	}
}

// wantGot fails unless Get tells those strings.
func wantGot(t *testing.T, b []byte, l []string) {
	t.Helper()
	got, e := texts.Get(b)
	if e != api.OK || !slices.Equal(got, l) {
		t.Errorf("Get of % x: %s, error %d, want %s", b[:min(len(b), 40)], short(got), e, short(l))
	}
}

// wantBad fails unless Get returns ErrBad, and nothing beside it.
func wantBad(t *testing.T, what string, b []byte) {
	t.Helper()
	if l, e := texts.Get(b); e != api.ErrBad || len(l) != 0 {
		t.Errorf("Get of % x (%s): %s, error %d", b[:min(len(b), 40)], what, short(l), e)
	}
}

// wantTrue fails unless bytes are either refused, or those that the document gives to the strings that are got.
func wantTrue(t *testing.T, b []byte) {
	t.Helper()
	l, e := texts.Get(b)
	if e != api.OK {
		wantBad(t, "wrong", b)
		return
	}
	if form := int(b[0]); form < 1 || form > 2 || len(l) > most || !bytes.Equal(ways[form-1].want(l), b) {
		t.Errorf("Get of % x: %s, of which these are not the bytes", b[:min(len(b), 40)], short(l))
	}
}

// The chapter's example.
func TestExample(t *testing.T) {
	l := slices.Repeat([]string{"a"}, 6)
	b, e := texts.Put(l)
	if want := []byte{2, 6, 1, 1, 'a', 0}; e != api.OK || !bytes.Equal(b, want) {
		t.Errorf("Put of %v: % x, error %d", l, b, e)
	}
	wantGot(t, b, l)
}

// P7.1
func TestByHand(t *testing.T) {
	for _, c := range []struct {
		l           []string
		plain, dict string
		put         int
	}{
		{nil, "\x01\x00", "\x02\x00\x00\x00", 1},
		{[]string{""}, "\x01\x01\x00", "\x02\x01\x01\x00\x00", 1},
		{[]string{"x"}, "\x01\x01\x01x", "\x02\x01\x01\x01x\x00", 1},
		{[]string{"b", "a", "b", ""}, "\x01\x04\x01b\x01a\x01b\x00", "\x02\x04\x03\x00\x01a\x01b\x02\x26", 1},
		{[]string{"bcd", "a", "bcd", "bcd"}, "\x01\x04\x03bcd\x01a\x03bcd\x03bcd", "\x02\x04\x02\x01a\x03bcd\x01\x0d", 2},
		{[]string{"\xff\xff\xff\xff", "é", "\xff\xff\xff\xff", "\x00"}, "\x01\x04\x04\xff\xff\xff\xff\x02\xc3\xa9\x04\xff\xff\xff\xff\x01\x00", "\x02\x04\x03\x01\x00\x02\xc3\xa9\x04\xff\xff\xff\xff\x02\x26", 2},
	} {
		wants := []string{c.plain, c.dict}
		wants = append(wants, wants[c.put-1])
		for i, w := range ways {
			b, e := w.put(c.l)
			if e != api.OK || string(b) != wants[i] {
				t.Errorf("%s of %q: % x, error %d, want % x", w.name, c.l, b, e, wants[i])
			}
			wantGot(t, []byte(wants[i]), c.l)
		}
	}
}

// P7.1, P7.3
func TestColumns(t *testing.T) {
	for _, l := range columns() {
		wantPut(t, l)
	}
	for _, l := range small(6, "", "a", "ab") {
		wantPut(t, l)
	}
	for _, l := range small(4, "", "\x00", "a", "a\x00", "\xff", "long enough") {
		wantPut(t, l)
	}
}

// P7.1
func TestLong(t *testing.T) {
	much := strings.Repeat("m", longest+1)
	all := [][]string{{much}, {"", much}, {much, ""}, {much, much}, {"a", much + "m", "b"}, {much[1:], much}, append(make([]string, most-1), much), append(make([]string, most), much)}
	for _, n := range []int{most + 1, most + 2, 2 * most, 1 << 16, 1<<16 + 1} {
		all = append(all, make([]string, n), numbered(n))
	}
	for _, l := range all {
		for _, w := range ways {
			if b, e := w.put(l); e != api.ErrLong || len(b) != 0 {
				t.Errorf("%s of %s: %d bytes, error %d", w.name, short(l), len(b), e)
			}
		}
	}
}

// P7.1: no error is named for Words, so it has no limits.
func TestWords(t *testing.T) {
	much := strings.Repeat("m", longest+1)
	many := numbered(2*most + 1)
	slices.Reverse(many)
	for _, l := range [][]string{nil, {""}, {"b", "a", "b"}, {"a", "B", "\xff", "é", "", "a"}, {much, much[1:], much}, many, slices.Concat(many, many)} {
		if words := texts.Words(l); !slices.Equal(words, modelWords(l)) {
			t.Errorf("Words of %s: %s", short(l), short(words))
		}
	}
}

// P7.1: of encodings of the same length Put takes the plain one, also if the other is longer or shorter by one byte.
func TestPutTies(t *testing.T) {
	for _, c := range []struct {
		l    []string
		more int // bytes of the dictionary beyond those of the plain form
	}{
		{slices.Repeat([]string{""}, 2), 1},
		{slices.Repeat([]string{""}, 3), 0},
		{slices.Repeat([]string{""}, 4), -1},
		{[]string{"", "a", "a"}, 1},
		{[]string{"a", "a"}, 0},
		{[]string{"ab", "ab"}, -1},
		{[]string{"", "ab", "ab"}, 0},
		{[]string{"abc", "abc", ""}, -1},
	} {
		p, _ := texts.Plain(c.l)
		d, _ := texts.Dict(c.l)
		b, e := texts.Put(c.l)
		want := p
		if c.more < 0 {
			want = d
		}
		if len(d)-len(p) != c.more || e != api.OK || !bytes.Equal(b, want) {
			t.Errorf("Put of %q: % x, error %d; plain % x, dictionary % x", c.l, b, e, p, d)
		}
	}
}

// P7.2: wrong bytes, named by what is wrong.
func TestBad(t *testing.T) {
	much := strings.Repeat("m", longest+1)
	for _, c := range []struct{ what, b string }{
		{"nothing", ""},
		{"form alone", "\x01"},
		{"form alone", "\x02"},
		{"form 0 alone", "\x00"},
		{"form 3 alone", "\x03"},
		{"form 255 alone", "\xff"},
		{"form 0", "\x00\x00"},
		{"form 0", "\x00\x01\x01a"},
		{"form 3", "\x03\x00"},
		{"form 3", "\x03\x00\x00\x00"},
		{"form 3", "\x03\x01\x01a"},
		{"form 255", "\xff\x00"},
		{"half a varint", "\x01\x80"},
		{"half a varint", "\x02\x80"},
		{"a varint too long", "\x01\x80\x00"},
		{"a varint too long", "\x01\x81\x00\x01a"},
		{"a varint too long", "\x02\x80\x00\x00\x00"},
		{"a varint of eleven bytes", "\x01\x80\x80\x80\x80\x80\x80\x80\x80\x80\x80\x01"},
		{"plain: 2^32 strings", "\x01\x80\x80\x80\x80\x10"},
		{"plain: 2^63 strings", "\x01\x80\x80\x80\x80\x80\x80\x80\x80\x80\x01"},
		{"plain: 2^64 - 1 strings", "\x01\xff\xff\xff\xff\xff\xff\xff\xff\xff\x01"},
		{"dictionary: 2^32 strings", "\x02\x80\x80\x80\x80\x10\x00\x00"},
		{"dictionary: 2^63 strings", "\x02\x80\x80\x80\x80\x80\x80\x80\x80\x80\x01\x00\x00"},
		{"dictionary: 2^64 - 1 strings", "\x02\xff\xff\xff\xff\xff\xff\xff\xff\xff\x01\x00\x00"},
		{"plain: no string", "\x01\x01"},
		{"plain: half a string", "\x01\x01\x02a"},
		{"plain: half a length", "\x01\x01\x80"},
		{"plain: a length too long", "\x01\x01\x81\x00a"},
		{"plain: a length too long", "\x01\x01\x80\x00"},
		{"plain: one string of two", "\x01\x02\x01a"},
		{"plain: a byte more", "\x01\x01\x01a\x00"},
		{"plain: a string more", "\x01\x01\x01a\x01b"},
		{"plain: a string more", "\x01\x00\x00"},
		{"plain: 2^31 bytes", "\x01\x01\x80\x80\x80\x80\x08a"},
		{"plain: 2^32 bytes", "\x01\x01\x80\x80\x80\x80\x10a"},
		{"plain: 2^32 + 1 bytes", "\x01\x01\x81\x80\x80\x80\x10a"},
		{"plain: 2^63 bytes", "\x01\x01\x80\x80\x80\x80\x80\x80\x80\x80\x80\x01a"},
		{"plain: 2^64 - 1 bytes", "\x01\x01\xff\xff\xff\xff\xff\xff\xff\xff\xff\x01a"},
		{"plain: a string too long", "\x01\x01" + sized(much)},
		{"plain: a string too long", "\x01\x02\x01a" + sized(much)},
		{"dictionary: no words", "\x02\x01"},
		{"dictionary: no words", "\x02\x00"},
		{"dictionary: no word", "\x02\x01\x01"},
		{"dictionary: half a word", "\x02\x01\x01\x02a"},
		{"dictionary: one word of two", "\x02\x02\x02\x01a"},
		{"dictionary: no width", "\x02\x01\x01\x01a"},
		{"dictionary: no width", "\x02\x00\x00"},
		{"dictionary: no strings, width 1", "\x02\x00\x00\x01"},
		{"dictionary: no strings, width 64", "\x02\x00\x00\x40"},
		{"dictionary: no strings, width 65", "\x02\x00\x00\x41"},
		{"dictionary: no strings, a word", "\x02\x00\x01\x01a\x00"},
		{"dictionary: no strings, an empty word", "\x02\x00\x01\x00\x00"},
		{"dictionary: a string, no words", "\x02\x01\x00\x00"},
		{"dictionary: a string, no words", "\x02\x01\x00\x01\x01"},
		{"dictionary: a word too long", "\x02\x01\x01" + sized(much) + "\x00"},
		{"dictionary: a number of words too long", "\x02\x01\x81\x00\x01a\x00"},
		{"dictionary: 2^32 words", "\x02\x01\x80\x80\x80\x80\x10\x01a\x00"},
		{"dictionary: 2^32 + 1 words", "\x02\x01\x81\x80\x80\x80\x10\x01a\x00"},
		{"dictionary: 2^63 words", "\x02\x01\x80\x80\x80\x80\x80\x80\x80\x80\x80\x01\x01a\x00"},
		{"dictionary: 2^64 - 1 words", "\x02\x01\xff\xff\xff\xff\xff\xff\xff\xff\xff\x01\x01a\x00"},
		{"dictionary: words that fall", "\x02\x02\x02\x01b\x01a\x01\x01"},
		{"dictionary: words that fall", "\x02\x02\x02\x01b\x01a\x01\x02"},
		{"dictionary: words that fall", "\x02\x03\x03\x00\x01b\x01a\x02\x24"},
		{"dictionary: words that fall", "\x02\x02\x02\x01a\x00\x01\x02"},
		{"dictionary: words that fall as bytes", "\x02\x02\x02\x01\x80\x01\x7f\x01\x02"},
		{"dictionary: a word twice", "\x02\x02\x02\x01a\x01a\x01\x02"},
		{"dictionary: a word twice", "\x02\x03\x03\x01a\x01b\x01b\x02\x24"},
		{"dictionary: an empty word twice", "\x02\x02\x02\x00\x00\x01\x02"},
		{"dictionary: the first word is used by none", "\x02\x02\x02\x01a\x01b\x01\x03"},
		{"dictionary: the last word is used by none", "\x02\x02\x02\x01a\x01b\x00"},
		{"dictionary: the last word is used by none", "\x02\x02\x02\x01a\x01b\x01\x00"},
		{"dictionary: a word between is used by none", "\x02\x03\x03\x01a\x01b\x01c\x02\x20"},
		{"dictionary: more words than strings", "\x02\x01\x02\x01a\x01b\x01\x01"},
		{"dictionary: an index beyond the words", "\x02\x02\x01\x01a\x01\x02"},
		{"dictionary: an index beyond the words", "\x02\x03\x02\x01a\x01b\x02\x24"},
		{"dictionary: an index beyond the words", "\x02\x01\x01\x01a\x40\xff\xff\xff\xff\xff\xff\xff\xff"},
		{"dictionary: an index of 2^63", "\x02\x01\x01\x01a\x40\x00\x00\x00\x00\x00\x00\x00\x80"},
		{"dictionary: an index of 2^32", "\x02\x01\x01\x01a\x21\x00\x00\x00\x00\x01"},
		{"dictionary: a width too great", "\x02\x01\x01\x01a\x01\x00"},
		{"dictionary: a width too great", "\x02\x02\x02\x01a\x01b\x02\x04"},
		{"dictionary: a width too great", "\x02\x02\x02\x01a\x01b\x40\x00\x00\x00\x00\x00\x00\x00\x00\x01\x00\x00\x00\x00\x00\x00\x00"},
		{"dictionary: width 65", "\x02\x01\x01\x01a\x41\x00\x00\x00\x00\x00\x00\x00\x00\x00"},
		{"dictionary: width 255", "\x02\x01\x01\x01a\xff"},
		{"dictionary: width 0, and a byte", "\x02\x01\x01\x01a\x00\x00"},
		{"dictionary: a byte less", "\x02\x02\x02\x01a\x01b\x01"},
		{"dictionary: a byte more", "\x02\x02\x02\x01a\x01b\x01\x02\x00"},
		{"dictionary: an unused bit", "\x02\x02\x02\x01a\x01b\x01\x06"},
		{"dictionary: an unused bit", "\x02\x02\x02\x01a\x01b\x01\x82"},
	} {
		wantBad(t, c.what, []byte(c.b))
	}
	wantGot(t, []byte("\x02\x02\x02\x01a\x01b\x01\x02"), []string{"a", "b"})
	wantGot(t, []byte("\x02\x03\x03\x00\x01a\x01b\x02\x12"), []string{"b", "", "a"})
}

// P7.2: as many strings and bytes as there can be, and more.
func TestMost(t *testing.T) {
	for _, n := range []int{most - 1, most, most + 1, 2 * most, 1 << 16} {
		for _, l := range [][]string{slices.Repeat([]string{"q"}, n), numbered(n), make([]string, n)} {
			for _, w := range ways {
				if b := w.want(l); n > most {
					wantBad(t, "too many strings", b)
				} else {
					wantGot(t, b, l)
				}
			}
		}
	}
	for _, n := range []int{longest - 1, longest, longest + 1, 2 * longest} {
		for _, l := range [][]string{{strings.Repeat("q", n)}, {"z", strings.Repeat("q", n), "a", "a"}} {
			for _, w := range ways {
				if b := w.want(l); n > longest {
					wantBad(t, "a string too long", b)
				} else {
					wantGot(t, b, l)
				}
			}
		}
	}
}

// P7.2: what is cut off, what is added, and one byte in place of another.
func TestChangedBytes(t *testing.T) {
	few := append(small(4, "", "a", "ab"), []string{"b", "a", "c", "e", "d", "a"}, []string{"x", "\x00", "\xff"}, slices.Repeat([]string{"s"}, 200), numbered(20))
	for _, l := range few {
		for _, w := range ways[:2] {
			b := w.want(l)
			for n := range b {
				wantBad(t, "cut off", b[:n]) // what is missing is in the spare capacity
			}
			for _, more := range []string{"\x00", "\x01", "\xff", "\x01a", string(b)} {
				wantBad(t, "added", append(bytes.Clone(b), more...))
			}
			for i := range b {
				other := bytes.Clone(b)
				for _, c := range []byte{0, 1, 2, 3, 4, 5, 8, 63, 64, 65, 'a', 'b', 127, 128, 129, 254, 255, b[i] + 1, b[i] - 1, b[i] ^ 128} {
					other[i] = c
					wantTrue(t, other)
				}
			}
		}
	}
}

// P7.2: bytes by chance behind a head that may be right.
func TestAnyBytes(t *testing.T) {
	r := rand.New(rand.NewPCG(7, 2))
	for range 100000 {
		b := []byte{byte(r.IntN(4)), byte(r.IntN(4))}
		for range r.IntN(12) {
			b = append(b, byte(r.Uint64()>>(56+r.IntN(8))))
		}
		wantTrue(t, b)
	}
	for n := range 1 << 16 {
		wantTrue(t, []byte{byte(n), byte(n >> 8)})
		wantTrue(t, []byte{2, 1, 1, byte(n), byte(n >> 8)})
		wantTrue(t, []byte{2, byte(n), 1, 0, byte(n >> 8)})
	}
	for n := range 1 << 8 { // every list of three indexes in two bits
		for words := 1; words <= 4; words++ {
			b := []byte{2, 3, byte(words)}
			for _, w := range "abcd"[:words] {
				b = append(b, 1, byte(w))
			}
			wantTrue(t, append(b, 1, byte(n)))
			wantTrue(t, append(b, 2, byte(n)))
		}
	}
}

// P7.1, P7.2: arguments are left alone, with their spare capacity, and no two results share memory.
func TestNewMemory(t *testing.T) {
	for _, l := range [][]string{nil, {"a"}, {"b", "a", "b"}, {"one", "two", "one", "one", ""}} {
		for _, w := range ways {
			whole := append(slices.Clone(l), "x", "y", "z")
			kept := slices.Clone(whole)
			first, _ := w.put(whole[:len(l)])
			second, _ := w.put(whole[:len(l)])
			words, other := texts.Words(whole[:len(l)]), texts.Words(whole[:len(l)])
			if !slices.Equal(whole, kept) {
				t.Errorf("%s or Words changed its argument", w.name)
			}
			b := append(bytes.Clone(first), 1, 2, 3)
			spare := bytes.Clone(b)
			got, _ := texts.Get(b[:len(first)])
			again, _ := texts.Get(b[:len(first)])
			if !bytes.Equal(b, spare) {
				t.Error("Get changed its argument")
			}
			clear(second[:cap(second)])
			clear(other[:cap(other)])
			clear(again[:cap(again)])
			clear(b)
			clear(whole)
			if !bytes.Equal(first, w.want(l)) || !slices.Equal(got, l) || !slices.Equal(words, modelWords(l)) {
				t.Errorf("%s, Words or Get: results share memory", w.name)
			}
		}
	}
}

// P7.3: with strings that are long or short, many or few.
func TestPutThenGet(t *testing.T) {
	r := rand.New(rand.NewPCG(7, 3))
	for range 2000 {
		words := make([]string, 1+r.IntN(300)>>r.IntN(9))
		for i := range words {
			b := make([]byte, r.IntN(200)>>r.IntN(8))
			for k := range b {
				b[k] = byte(r.Uint64())
			}
			words[i] = string(b)
		}
		wantPut(t, mixed(words, r.IntN(400), r))
	}
}
