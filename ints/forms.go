package ints

import (
	"slices"

	"shadowbook/api"
	"shadowbook/octet"
	"shadowbook/packs"
)

const size = 8 // bytes of a number

func putPlain(l []int64) []byte {
	out := make([]byte, 0, size*len(l))
	for _, v := range l {
		out = putNumber(out, v)
	}
	return out
}

func getPlain(r *octet.Reader, n int) ([]int64, api.Errno) {
	l := make([]int64, 0, n)
	for range n {
		v, e := r.Number(size)
		if e != api.OK {
			return nil, e
		}
		l = append(l, int64(v))
	}
	return l, api.OK
}

func putRuns(l []int64) []byte {
	var out []byte
	for _, run := range cut(l) {
		out = append(out, octet.PutVar(nil, uint64(len(run)))...)
		out = putNumber(out, run[0])
	}
	return out
}

func getRuns(r *octet.Reader, n int) ([]int64, api.Errno) {
	l := make([]int64, 0, n)
	for len(l) < n {
		length, e := r.Var()
		if e != api.OK {
			return nil, e
		}
		v, e := r.Number(size)
		if e != api.OK {
			return nil, e
		}
		again := len(l) > 0 && l[len(l)-1] == int64(v)
		if length == 0 || length > uint64(n-len(l)) || again {
			return nil, api.ErrBad
		}
		l = append(l, slices.Repeat([]int64{int64(v)}, int(length))...)
	}
	return l, api.OK
}

// cut returns the runs of equal numbers.
func cut(l []int64) [][]int64 {
	var all [][]int64
next:
	for len(l) > 0 {
		for i, v := range l {
			if v != l[0] {
				all = append(all, l[:i])
				l = l[i:]
				continue next
			}
		}
		return append(all, l)
	}
	return all
}

func putPacked(l []int64) []byte {
	least := smallest(l)
	above := make([]uint64, 0, len(l))
	for _, v := range l {
		above = append(above, uint64(v)-uint64(least)) // as numbers with a sign they may be too far apart
	}
	width := packs.Width(above)
	out := append(putNumber(nil, least), byte(width))
	b, _ := packs.Put(above, width) // a column has few enough numbers, and each fits into the width
	return append(out, b...)
}

func getPacked(r *octet.Reader, n int) ([]int64, api.Errno) {
	head, e := r.Bytes(size + 1)
	if e != api.OK {
		return nil, e
	}
	least, width := octet.Of(head[:size]), int(head[size])
	b, _ := r.Bytes(r.Left()) // packs knows how many there must be
	above, e := packs.Get(b, n, width)
	if e != api.OK {
		return nil, e
	}
	l := make([]int64, 0, n)
	for _, v := range above {
		l = append(l, int64(least+v))
	}
	if smallest(l) != int64(least) || packs.Width(above) != width {
		return nil, api.ErrBad
	}
	return l, api.OK
}

func smallest(l []int64) int64 {
	if len(l) == 0 {
		return 0
	}
	return slices.Min(l)
}

// putNumber appends a number of eight bytes by itself, as octet would copy out for each of them.
func putNumber(out []byte, v int64) []byte {
	return append(out, octet.Put(nil, uint64(v), size)...)
}
