package space_test

import (
	"math/rand/v2"
	"testing"

	"diapause/api"
)

// place is mostly an index of so many, or beside them, and at times a strange one.
func place(r *rand.Rand, n int) int {
	if r.IntN(12) == 0 {
		l := strange()
		return l[r.IntN(len(l))]
	}
	return r.IntN(n+3) - 1
}

// walk makes so many calls in any order, and holds each one against the plain copy.
func walk(d *both, r *rand.Rand, calls int) {
	size, globals := len(d.p.elems), len(d.p.globals)
	for range calls {
		switch r.IntN(8) {
		case 0:
			d.elem(int64(place(r, size)))
		case 1:
			d.global(place(r, globals))
		case 2, 3, 4:
			fs := make([]int, r.IntN(size+3))
			for k := range fs {
				fs[k] = r.IntN(18) - 1
			}
			if r.IntN(2) == 0 {
				fs = fs[:min(len(fs), 2)]
			}
			d.setElems(place(r, size), fs...)
		default:
			d.setGlobal(place(r, globals), api.Val{Kind: r.IntN(20)/9 + 1, N: r.Int64() >> r.IntN(64)})
		}
	}
}

// TestManyCalls holds many calls in any order, of several modules, against the plain copy.
func TestManyCalls(t *testing.T) {
	for seed, m := range []api.Module{
		of(4, several()...), of(16, i32(0), i64(0)), of(1, i64(3)), of(0, i32(1), i32(2)), of(16), of(40, several()...), {}, {Globals: of(0, several()...).Globals},
	} {
		d := newBoth(t, m, "many calls")
		walk(d, rand.New(rand.NewPCG(uint64(seed), 11)), 1000)
		if t.Failed() {
			return
		}
	}
}
