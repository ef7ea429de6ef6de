package state_test

import (
	"bytes"
	"math/rand/v2"
	"testing"

	"diapause/api"
	"diapause/state"
)

// walker makes states, of which most are valid.
type walker struct {
	r *rand.Rand
	// rare is how many parts there are for one that is not valid.
	rare int
}

// number is mostly one that may be, often a small one.
func (w walker) number() int {
	if w.r.IntN(w.rare) == 0 {
		return []int{-1, 10001, 20000, -5000, 1 << 32}[w.r.IntN(5)]
	}
	return w.r.IntN(10001) >> w.r.IntN(14)
}

func (w walker) val() api.Val {
	v := api.Val{Kind: 1 + w.r.IntN(2), N: w.r.Int64() >> w.r.IntN(64)}
	if w.r.IntN(2) == 0 {
		v.N = -v.N
	}
	if v.Kind == 1 && w.r.IntN(w.rare) > 0 {
		v.N = int64(int32(v.N))
	}
	if w.r.IntN(w.rare) == 0 {
		v.Kind = w.r.IntN(5) - 1
	}
	return v
}

// count is mostly that of a short list, and at times one more than there may be.
func (w walker) count(most int) int {
	switch w.r.IntN(16) {
	case 0:
		return most
	case 1:
		if w.r.IntN(w.rare) == 0 {
			return most + 1
		}
	}
	return w.r.IntN(1 + min(most, 6))
}

func (w walker) vals(most int) []api.Val {
	var l []api.Val
	for range w.count(most) {
		l = append(l, w.val())
	}
	return l
}

func (w walker) state() state.State {
	s := state.State{Asks: w.r.IntN(10002)>>w.r.IntN(14) - 1}
	s.Vals = w.vals(1000)
	for range w.count(32) {
		f := state.Frame{Fn: w.number(), Pc: w.number(), Base: w.number(), Locals: w.vals(32)}
		for range w.count(40) {
			f.Labels = append(f.Labels, state.Label{At: w.number(), Height: w.number()})
		}
		s.Frames = append(s.Frames, f)
	}
	return s
}

// TestManyStates holds many states, of which there are enough that are valid and enough that are not.
func TestManyStates(t *testing.T) {
	met := map[bool]int{}
	var all []state.State
	for _, rare := range []int{100, 1000, 1000000} {
		w := walker{r: rand.New(rand.NewPCG(13, uint64(rare))), rare: rare}
		for range 800 {
			s := w.state()
			met[may(s)]++
			hold(t, s, may(s), "many states")
			if may(s) {
				all = append(all, s)
			}
			if t.Failed() {
				return
			}
		}
	}
	distinct(t, all, "many states")
	if met[true] < 500 || met[false] < 300 {
		t.Errorf("the test itself: got %v", met)
	}
}

// TestManyFaults holds encodings in which several bytes are disturbed.
func TestManyFaults(t *testing.T) {
	r := rand.New(rand.NewPCG(13, 2))
	w := walker{r: r, rare: 1 << 40}
	for range 2000 {
		b := state.Encode(w.state())
		for range 5 {
			changed := bytes.Clone(b)
			for range 1 + r.IntN(3) {
				at := r.IntN(len(changed))
				switch r.IntN(4) {
				case 0:
					changed = append(changed[:at], changed[at+1:]...)
					changed = append(changed, byte(r.IntN(4)))
				case 1:
					changed[at] ^= 1 << r.IntN(8)
				case 2:
					changed[at] = byte(r.Uint32())
				case 3:
					other := r.IntN(len(changed))
					changed[at], changed[other] = changed[other], changed[at]
				}
			}
			holdBytes(t, changed, "several faults")
			if t.Failed() {
				return
			}
		}
	}
}
