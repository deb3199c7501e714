package nulls

// flags tell for each cell whether it is null.
type flags []bool

// runs yields how long each run of equal flags is, and the flag.
func (f flags) runs(yield func(int, bool) bool) {
next:
	for len(f) > 0 {
		for i, v := range f {
			if v == f[0] {
				continue
			}
			if !yield(i, f[0]) {
				return
			}
			f = f[i:]
			continue next
		}
		yield(len(f), f[0])
		return
	}
}

func (f flags) count() int {
	count := 0
	for n, null := range f.runs {
		if null {
			count += n
		}
	}
	return count
}

// form returns which of the forms the encoding has: no flags at all are none that is true.
func (f flags) form() int {
	switch f.count() {
	case 0:
		return none
	case len(f):
		return all
	}
	return some
}

func (f flags) numbers() []uint64 {
	l := make([]uint64, len(f))
	for i, null := range f {
		if null {
			l[i] = 1
		}
	}
	return l
}

// places returns for each cell where its value is among those that are there, or -1.
func (f flags) places() []int {
	l := make([]int, 0, len(f))
	value := 0
	for n, null := range f.runs {
		for range n {
			if null {
				l = append(l, -1)
				continue
			}
			l = append(l, value)
			value++
		}
	}
	return l
}
