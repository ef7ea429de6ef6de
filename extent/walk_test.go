package extent_test

import (
	"math/rand/v2"
	"testing"

	"diapause/extent"
)

// walker makes calls in any order on a Room, of which it knows what it has taken.
type walker struct {
	*both
	r     *rand.Rand
	taken []extent.Span
}

// near returns a number within the Room or close to one of its ends.
func (w *walker) near() int {
	return w.p.at - 3 + w.r.IntN(w.p.n+6)
}

// length returns mostly a small number.
func (w *walker) length() int {
	if w.r.IntN(4) == 0 {
		return w.r.IntN(w.p.n+5) - 2
	}
	return w.r.IntN(9) - 1
}

func (w *walker) takeSome() {
	if s, ok := w.take(w.length()); ok {
		w.taken = append(w.taken, s)
	}
}

// giveBack gives all of what was taken once, or a part of it, or one sector more.
func (w *walker) giveBack() {
	if len(w.taken) == 0 {
		return
	}
	k := w.r.IntN(len(w.taken))
	s := w.taken[k]
	switch w.r.IntN(6) {
	case 0:
		w.give(s.At, s.Len-1)
	case 1:
		w.give(s.At+1, s.Len-1)
	case 2:
		w.give(s.At-1, s.Len+1)
	case 3:
		w.give(s.At, s.Len+1)
	default:
		w.give(s.At, s.Len)
		w.taken = append(w.taken[:k], w.taken[k+1:]...)
	}
}

func (w *walker) walk(calls int) {
	for range calls {
		switch k := w.r.IntN(20); {
		case k < 7:
			w.takeSome()
		case k < 10:
			w.use(w.near(), w.length())
		case k < 13:
			w.give(w.near(), w.length())
		case k < 19:
			w.giveBack()
		default:
			elder := w.both
			w.both = w.copied(w.about)
			elder.take(1)
			w.same("what was done to its elder")
		}
	}
}

// TestManyCalls holds many calls in any order, in Rooms of many sizes.
func TestManyCalls(t *testing.T) {
	for seed := range uint64(120) {
		r := rand.New(rand.NewPCG(seed, 19))
		n := []int{1, 2, 5, 20, 100, 400}[seed%6]
		w := &walker{both: newBoth(t, int(seed/6)*7, n, "a walk"), r: r}
		w.walk(600)
		if t.Failed() {
			return
		}
	}
	w := &walker{both: newBoth(t, 3, 2048, "a walk in the greatest room"), r: rand.New(rand.NewPCG(1, 1))}
	w.walk(1500)
}
