package segment

import (
	"shadowbook/api"
	"shadowbook/ints"
	"shadowbook/octet"
	"shadowbook/packs"
	"shadowbook/texts"
)

// The forms of single cells.
const (
	intBytes  = 8
	boolBytes = 1
	boolBits  = 1 // of a bool among others
)

// coder encodes cells of its kind, none of them null: single ones, which may be followed by anything, and all of a column up to its end.
type coder interface {
	putCell(c api.Cell) []byte
	getCell(r *octet.Reader) api.Cell // null, if what follows is no cell
	putCells(l []api.Cell) []byte
	getCells(b []byte, n int) ([]api.Cell, api.Errno)
}

// codec is the coder of a kind whose cells have values of type T.
type codec[T any] struct {
	value  func(c api.Cell) T
	cell   func(v T) api.Cell
	putOne func(v T) []byte
	getOne func(r *octet.Reader) (T, api.Errno)
	putAll func(l []T) ([]byte, api.Errno)
	getAll func(b []byte, n int) ([]T, api.Errno)
}

// coderOf returns the coder of a kind, or nil if there is no such kind of columns.
func coderOf(kind int) coder {
	switch kind {
	case api.KindInt:
		return intCodec()
	case api.KindBool:
		return boolCodec()
	case api.KindText:
		return textCodec()
	}
	return nil
}

func intCodec() codec[int64] {
	return codec[int64]{
		value:  func(c api.Cell) int64 { return c.Int },
		cell:   func(v int64) api.Cell { return api.Cell{Kind: api.KindInt, Int: v} },
		putOne: func(v int64) []byte { return octet.Put(nil, uint64(v), intBytes) },
		getOne: func(r *octet.Reader) (int64, api.Errno) {
			v, e := r.Number(intBytes)
			return int64(v), e
		},
		putAll: ints.Put,
		getAll: exactly(ints.Get),
	}
}

func boolCodec() codec[uint64] {
	return codec[uint64]{
		value:  func(c api.Cell) uint64 { return uint64(c.Int) },
		cell:   func(v uint64) api.Cell { return api.Cell{Kind: api.KindBool, Int: int64(v)} },
		putOne: func(v uint64) []byte { return octet.Put(nil, v, boolBytes) },
		getOne: func(r *octet.Reader) (uint64, api.Errno) { return r.Number(boolBytes) },
		putAll: func(l []uint64) ([]byte, api.Errno) { return packs.Put(l, boolBits) },
		getAll: func(b []byte, n int) ([]uint64, api.Errno) { return packs.Get(b, n, boolBits) },
	}
}

func textCodec() codec[string] {
	return codec[string]{
		value:  func(c api.Cell) string { return c.Text },
		cell:   func(v string) api.Cell { return api.Cell{Kind: api.KindText, Text: v} },
		putOne: func(v string) []byte { return append(octet.PutVar(nil, uint64(len(v))), v...) },
		getOne: getText,
		putAll: texts.Put,
		getAll: exactly(texts.Get),
	}
}

func getText(r *octet.Reader) (string, api.Errno) {
	n, e := r.Var()
	if e != api.OK || n > api.MaxBytes {
		return "", api.ErrBad
	}
	b, e := r.Bytes(int(n))
	return string(b), e
}

// exactly makes of a function that gets all values there are one that gets n of them, or none.
func exactly[T any](get func(b []byte) ([]T, api.Errno)) func([]byte, int) ([]T, api.Errno) {
	return func(b []byte, n int) ([]T, api.Errno) {
		l, e := get(b)
		if e != api.OK || len(l) != n {
			return nil, api.ErrBad
		}
		return l, api.OK
	}
}

func (c codec[T]) putCell(cell api.Cell) []byte {
	return c.putOne(c.value(cell))
}

func (c codec[T]) getCell(r *octet.Reader) api.Cell {
	v, e := c.getOne(r)
	if e != api.OK {
		return api.Cell{}
	}
	return c.cell(v)
}

func (c codec[T]) putCells(l []api.Cell) []byte {
	values := make([]T, 0, len(l))
	for _, cell := range l {
		values = append(values, c.value(cell))
	}
	b, _ := c.putAll(values) // cells that Check has looked at can be put
	return b
}

func (c codec[T]) getCells(b []byte, n int) ([]api.Cell, api.Errno) {
	values, e := c.getAll(b, n)
	if e != api.OK {
		return nil, e
	}
	l := make([]api.Cell, 0, len(values))
	for _, v := range values {
		l = append(l, c.cell(v))
	}
	return l, api.OK
}
