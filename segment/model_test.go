package segment_test

import (
	"encoding/binary"
	"fmt"
	"math/bits"
	"slices"
	"strings"

	"shadowbook/api"
)

// What the document says of the bytes of a segment, written without the layers.

const (
	most    = 4096  // cells of a segment
	longest = 65536 // bytes of a text
)

var empty = api.Cell{}

func num(n int64) api.Cell   { return api.Cell{Kind: 1, Int: n} }
func truth(n int64) api.Cell { return api.Cell{Kind: 2, Int: n} }
func word(s string) api.Cell { return api.Cell{Kind: 3, Text: s} }

// short are cells as an error shows them.
func short(l []api.Cell) string {
	some := slices.Clone(l[:min(len(l), 8)])
	for i := range some {
		some[i].Text = some[i].Text[:min(len(some[i].Text), 20)]
	}
	return fmt.Sprintf("%d cells %v", len(l), some)
}

// hex is a string as an error shows it.
func hex(s string) string {
	return fmt.Sprintf("%d bytes % x", len(s), s[:min(len(s), 40)])
}

// varint is a number of at most 63 bits as a varint.
func varint(n int) string { return string(binary.AppendUvarint(nil, uint64(n))) }

// eight is a number in eight bytes.
func eight(n int64) string { return string(binary.LittleEndian.AppendUint64(nil, uint64(n))) }

// text is the bytes of a string.
func text(s string) string { return varint(len(s)) + s }

// pack are numbers in that many bits each.
func pack(l []uint64, width int) string {
	b := make([]byte, (len(l)*width+7)/8)
	for k := range len(l) * width {
		b[k/8] |= byte(l[k/width]>>(k%width)&1) << (k % 8)
	}
	return string(b)
}

// modelIntForms are the three encodings of numbers, and modelTextForms the two of strings.
func modelIntForms(l []int64) []string {
	n := varint(len(l))
	plain, runs, all := strings.Builder{}, strings.Builder{}, uint64(0)
	above := make([]uint64, len(l))
	for i, v := range l {
		plain.WriteString(eight(v))
		above[i] = uint64(v) - uint64(slices.Min(l))
		all |= above[i]
	}
	for i := 0; i < len(l); {
		k := i
		for k < len(l) && l[k] == l[i] {
			k++
		}
		runs.WriteString(varint(k-i) + eight(l[i]))
		i = k
	}
	width := bits.Len64(all)
	return []string{"\x01" + n + plain.String(), "\x02" + n + runs.String(), "\x03" + n + eight(slices.Min(l)) + string([]byte{byte(width)}) + pack(above, width)}
}

func modelTextForms(l []string) []string {
	n := varint(len(l))
	words := slices.Compact(slices.Sorted(slices.Values(l)))
	plain, dict, all := strings.Builder{}, strings.Builder{}, uint64(0)
	for _, s := range l {
		plain.WriteString(text(s))
	}
	for _, s := range words {
		dict.WriteString(text(s))
	}
	at := make([]uint64, len(l))
	for i, s := range l {
		k, _ := slices.BinarySearch(words, s)
		at[i] = uint64(k)
		all |= at[i]
	}
	width := bits.Len64(all)
	return []string{"\x01" + n + plain.String(), "\x02" + n + varint(len(words)) + dict.String() + string([]byte{byte(width)}) + pack(at, width)}
}

// shortest is the first of the shortest ones.
func shortest(forms []string) string {
	return slices.MinFunc(forms, func(a, b string) int { return len(a) - len(b) })
}

// modelFlags tells which cells are null.
func modelFlags(l []api.Cell) string {
	null, count := make([]uint64, len(l)), 0
	for i, c := range l {
		if c.Kind == 0 {
			null[i] = 1
			count++
		}
	}
	switch count {
	case 0:
		return varint(len(l)) + "\x00"
	case len(l):
		return varint(len(l)) + "\x01"
	}
	return varint(len(l)) + "\x02" + pack(null, 1)
}

// modelCell is the smallest or the greatest cell.
func modelCell(c api.Cell) string {
	switch c.Kind {
	case 1:
		return eight(c.Int)
	case 2:
		return string([]byte{byte(c.Int)})
	}
	return text(c.Text)
}

// there are the cells that are not null.
func there(l []api.Cell) []api.Cell {
	return slices.DeleteFunc(slices.Clone(l), func(c api.Cell) bool { return c.Kind == 0 })
}

// modelForms are the cells that are not null, in each form that the kind has.
func modelForms(kind int, l []api.Cell) []string {
	var numbers []int64
	var truths []uint64
	var words []string
	for _, c := range l {
		numbers, truths, words = append(numbers, c.Int), append(truths, uint64(c.Int)), append(words, c.Text)
	}
	switch kind {
	case 1:
		return modelIntForms(numbers)
	case 2:
		return []string{pack(truths, 1)}
	}
	return modelTextForms(words)
}

func compare(a, b api.Cell) int {
	if a.Int != b.Int {
		if a.Int < b.Int {
			return -1
		}
		return 1
	}
	return strings.Compare(a.Text, b.Text)
}

// modelHead is what precedes the cells.
func modelHead(kind int, l []api.Cell) string {
	s := string([]byte{byte(kind)}) + modelFlags(l)
	if rest := there(l); len(rest) > 0 {
		s += modelCell(slices.MinFunc(rest, compare)) + modelCell(slices.MaxFunc(rest, compare))
	}
	return s
}

func modelPut(kind int, l []api.Cell) string {
	s := modelHead(kind, l)
	if rest := there(l); len(rest) > 0 {
		s += shortest(modelForms(kind, rest))
	}
	return s
}

// modelOf is the zone of valid cells of one kind, or null.
func modelOf(l []api.Cell) api.Zone {
	rest := there(l)
	z := api.Zone{Count: len(l), Nulls: len(l) - len(rest)}
	if len(rest) > 0 {
		z.Min, z.Max = slices.MinFunc(rest, compare), slices.MaxFunc(rest, compare)
	}
	return z
}

// cutVar cuts a varint off, unless there is none of at most that number.
func cutVar(s string, most uint64) (int, string, bool) {
	n, size := binary.Uvarint([]byte(s))
	if size <= 0 || size > 1 && s[size-1] == 0 || n > most {
		return 0, "", false
	}
	return int(n), s[size:], true
}

// cutCell cuts a cell off that the kind has.
func cutCell(kind int, s string) (api.Cell, string, bool) {
	switch {
	case kind == 1 && len(s) >= 8:
		return num(int64(binary.LittleEndian.Uint64([]byte(s[:8])))), s[8:], true
	case kind == 2 && len(s) >= 1 && s[0] < 2:
		return truth(int64(s[0])), s[1:], true
	case kind == 3:
		n, rest, ok := cutVar(s, longest)
		if ok && n <= len(rest) {
			return word(rest[:n]), rest[n:], true
		}
	}
	return empty, "", false
}

// modelZone is what Zone returns, or false if that is an error.
func modelZone(s string) (int, api.Zone, bool) {
	if s == "" || s[0] < 1 || s[0] > 3 {
		return 0, api.Zone{}, false
	}
	kind := int(s[0])
	n, rest, ok := cutVar(s[1:], most)
	if !ok || rest == "" {
		return 0, api.Zone{}, false
	}
	count := 0
	switch form := rest[0]; {
	case form == 0:
		rest = rest[1:]
	case form == 1 && n > 0:
		rest, count = rest[1:], n
	case form == 2 && len(rest) > (n+7)/8:
		for _, c := range []byte(rest[1 : 1+(n+7)/8]) {
			count += bits.OnesCount8(c)
		}
		last := rest[(n+7)/8]
		if rest = rest[1+(n+7)/8:]; count == 0 || count >= n || n%8 != 0 && last>>(n%8) != 0 {
			return 0, api.Zone{}, false
		}
	default:
		return 0, api.Zone{}, false
	}
	z := api.Zone{Count: n, Nulls: count}
	if n == count {
		return kind, z, true
	}
	first, rest, ok := cutCell(kind, rest)
	last, _, also := cutCell(kind, rest)
	if !ok || !also || compare(first, last) > 0 {
		return 0, api.Zone{}, false
	}
	z.Min, z.Max = first, last
	return kind, z, true
}
