package mem_test

import (
	"math/rand/v2"
	"testing"

	"diapause/api"
)

// walk makes so many calls in any order, and holds each one against the plain copy.
func walk(d *both, r *rand.Rand, calls int) {
	far := places()
	strange := lengths()
	for range calls {
		at := int64(r.IntN(256*d.p.pages() + 8))
		n := []int{1, 4, 8}[r.IntN(3)]
		switch r.IntN(16) {
		case 0:
			at = far[r.IntN(len(far))]
		case 1:
			n = strange[r.IntN(len(strange))]
		}
		switch r.IntN(12) {
		case 0:
			d.grow(int64(r.IntN(4)) - 1)
		case 1:
			d.clean()
		case 2, 3:
			b := mixed(int(r.Uint32()))
			d.setPage(r.IntN(d.p.pages()+2)-1, b[r.IntN(20)/19:])
		case 4, 5, 6:
			d.load(at, n)
		default:
			d.store(at, n, r.Uint64())
		}
	}
}

// TestManyCalls holds many calls in any order, of memories with several limits, against the plain copy.
func TestManyCalls(t *testing.T) {
	for seed, l := range []api.Limits{
		{Has: true, Min: 1, Max: -1}, {Has: true, Max: 3}, two, {Has: true, Min: 5, Max: 5}, {Has: true, Min: 14, Max: 65536},
		{Has: true, Min: 3, Max: 1}, {Has: true, Min: 16, Max: 16},
	} {
		d := newBoth(t, l, "many calls")
		walk(d, rand.New(rand.NewPCG(uint64(seed), 10)), 500)
		if t.Failed() {
			return
		}
	}
}
