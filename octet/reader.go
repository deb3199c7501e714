package octet

import "shadowbook/api"

// Reader reads numbers and bytes from the front of the bytes that New copied.
type Reader struct {
	rest []byte
	self *Reader // tells a reader of New from one that was made or copied otherwise
}

// New returns a reader of a copy of the bytes.
func New(b []byte) *Reader {
	r := &Reader{rest: add(b)}
	r.self = r
	return r
}

// Number reads a number of n bytes, the lowest first.
func (r *Reader) Number(n int) (uint64, api.Errno) {
	switch {
	case !r.valid():
		return 0, api.ErrNil
	case !isSize(n):
		return 0, api.ErrArg
	case n > len(r.rest):
		return 0, api.ErrMore
	}
	return Of(r.cut(n)), api.OK
}

// Var reads a varint.
func (r *Reader) Var() (uint64, api.Errno) {
	if !r.valid() {
		return 0, api.ErrNil
	}
	v := uint64(0)
	for i, c := range r.rest {
		if i == maxVar-1 && c > 1 { // only one bit is left of the 64, so this byte ends the varint or is wrong
			return 0, api.ErrBad
		}
		v |= uint64(c%more) << (group * i)
		if c >= more {
			continue
		}
		if c == 0 && i > 0 {
			return 0, api.ErrBad
		}
		r.cut(i + 1)
		return v, api.OK
	}
	return 0, api.ErrMore
}

// Bytes reads n bytes.
func (r *Reader) Bytes(n int) ([]byte, api.Errno) {
	switch {
	case !r.valid():
		return nil, api.ErrNil
	case n < 0:
		return nil, api.ErrArg
	case n > len(r.rest):
		return nil, api.ErrMore
	}
	return add(r.cut(n)), api.OK
}

// Left returns how many bytes are left.
func (r *Reader) Left() int {
	if !r.valid() {
		return 0
	}
	return len(r.rest)
}

func (r *Reader) valid() bool {
	return r != nil && r.self == r
}

// cut takes n bytes, which must be there, from the front.
func (r *Reader) cut(n int) []byte {
	b := r.rest[:n]
	r.rest = r.rest[n:]
	return b
}
