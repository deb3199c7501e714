package blob_test

import (
	"fmt"
	"slices"
	"testing"

	"shadowbook/api"
	"shadowbook/blob"
)

// P15.2: whoever has enough gets no more
func TestPartsBreak(t *testing.T) {
	r := start(t, small)
	b := text(5, 500)
	n, want := r.put("500 bytes", b), cut(small, b)
	for k := 1; k <= len(want); k++ {
		var got []string
		for part := range blob.Parts(r.s, n) {
			got = append(got, part)
			if len(got) == k {
				break
			}
		}
		if !slices.Equal(got, want[:k]) {
			t.Errorf("%d parts: %d of them", k, len(got))
		}
		calls := 0
		blob.Parts(r.s, n)(func(string) bool {
			calls++
			return calls < k
		})
		if calls != k {
			t.Errorf("%d parts: called %d times", k, calls)
		}
	}
}

// P15.2: the bytes can be gone through again, and by two at a time
func TestPartsAgain(t *testing.T) {
	r := start(t, small)
	a, b := text(6, 450), text(7, 333)
	parts, others := blob.Parts(r.s, r.put("a", a)), blob.Parts(r.s, r.put("b", b))
	for range 2 {
		if got := slices.Collect(parts); !slices.Equal(got, cut(small, a)) {
			t.Errorf("%d parts", len(got))
		}
	}
	for range parts {
		if got := slices.Collect(others); !slices.Equal(got, cut(small, b)) {
			t.Errorf("inside: %d parts", len(got))
		}
		if got := slices.Collect(parts); !slices.Equal(got, cut(small, a)) {
			t.Errorf("itself inside: %d parts", len(got))
		}
	}
}

// P15.2: no bytes, no parts
func TestNoParts(t *testing.T) {
	r := start(t, small)
	for part := range blob.Parts(r.s, r.put("no bytes", "")) {
		t.Errorf("%q", part)
	}
}

// P15.2: pages are read one by one, as they are yielded
func TestPartsOneByOne(t *testing.T) {
	for k := 1; k < 4; k++ {
		for why, harm := range map[string]func(*run, uint32){
			"dropped": func(r *run, n uint32) { r.drop("all", n) },
			"damaged": func(r *run, n uint32) { r.damage(r.get("all", n).Kids[k]) },
		} {
			r, b := start(t, small), text(8, 500)
			n := r.put("500 bytes", b)
			var got []string
			for part := range blob.Parts(r.s, n) {
				if got = append(got, part); len(got) == k {
					harm(r, n)
				}
			}
			if !slices.Equal(got, cut(small, b)[:k]) {
				t.Errorf("%s behind %d: %d parts", why, k, len(got))
			}
		}
	}
}

// P15.2: what is yielded can be put, and dropped, at once
func TestPartsAsBlobs(t *testing.T) {
	r := start(t, small)
	b := text(9, 440)
	n := r.put("440 bytes", b)
	roots := []uint32{n}
	for part := range blob.Parts(r.s, n) {
		roots = append(roots, r.put("a part", part))
	}
	r.audit("parts", roots...)
	for i, part := range cut(small, b) {
		r.want(fmt.Sprint("part ", i), roots[i+1], part)
	}
	r.want("all", n, b)
	if len(roots) != 5 || r.s.Count(n) != 1 {
		t.Errorf("%d blobs, count %d", len(roots), r.s.Count(n))
	}
}

// P15.1, P15.2: reading goes on when the device takes no more writes
func TestReadOnly(t *testing.T) {
	r := start(t, small)
	n := r.put("three", three)
	r.d.Fuse(0)
	r.want("a fuse", n, three)
	if got := blob.Most(r.s); got != most(small) {
		t.Errorf("Most: %d", got)
	}
	if _, e := blob.Put(r.s, three); e != api.ErrState {
		t.Errorf("Put: error %d", e)
	}
}
