package dev_test

import (
	"math/rand/v2"
	"testing"
)

// someKeep makes a list of any length up to n.
func someKeep(r *rand.Rand, n int) []bool {
	var keep []bool
	for range r.IntN(n + 1) {
		keep = append(keep, r.IntN(2) == 0)
	}
	return keep
}

// place returns the number of a sector, or seldom of none.
func place(r *rand.Rand, n int) int {
	if far := beyond(); r.IntN(20) == 0 {
		return far[r.IntN(len(far))]
	}
	return r.IntN(n+2) - r.IntN(2)
}

// walk makes so many calls in any order, and holds each one against the plain copy. A device that is dead is given up for what a crash
// leaves of it, sooner or later; those given up must stay as they were.
func walk(x *both, r *rand.Rand, calls int) {
	n := x.d.Len()
	var elders []*both
	for range calls {
		switch k := r.IntN(40); {
		case k < 26:
			x.write(place(r, n), mixed(r.IntN(67), int(r.Uint32())))
		case k < 31:
			x.flush()
		case k < 33:
			x.fuse(r.IntN(12))
		case k < 34:
			x.fuse(-1 - r.IntN(3))
		case k < 38:
			x.crash(someKeep(r, n+2)).same("a crash that is not followed")
		default:
			elders = append(elders, x)
			x = x.crash(someKeep(r, n+2))
			x.same("a crash")
		}
	}
	for _, elder := range elders {
		elder.same("all that came behind its crash")
	}
}

// TestManyCalls holds many calls in any order, of devices of several sizes, against the plain copy.
func TestManyCalls(t *testing.T) {
	for seed, n := range []int{1, 2, 3, 4, 5, 7, 12, 30} {
		for more := range uint64(4) {
			walk(newBoth(t, n, "many calls"), rand.New(rand.NewPCG(uint64(seed), 17+more)), 400)
			if t.Failed() {
				return
			}
		}
	}
}
