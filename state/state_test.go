package state_test

import (
	"fmt"
	"math"
	"slices"
	"testing"

	"diapause/api"
	"diapause/state"
)

// TestMayOfCounts holds each limit, and one beyond it.
func TestMayOfCounts(t *testing.T) {
	for _, n := range []int{0, 1, 2, 999, 1000, 1001, 1002, 1256, 70000} {
		hold(t, state.State{Vals: slices.Repeat([]api.Val{i32(-1)}, n)}, n <= 1000, fmt.Sprint(n, " Vals"))
	}
	for _, n := range []int{0, 1, 2, 31, 32, 33, 34, 64, 288, 10001} {
		hold(t, state.State{Frames: make([]state.Frame, n)}, n <= 32, fmt.Sprint(n, " Frames"))
	}
	for _, frames := range []int{1, 2, 32} {
		for k := range frames {
			of := func(f state.Frame) state.State {
				s := state.State{Frames: make([]state.Frame, frames), Asks: -1}
				s.Frames[k] = f
				return s
			}
			for _, n := range []int{0, 1, 31, 32, 33, 40, 41, 288} {
				hold(t, of(state.Frame{Locals: slices.Repeat([]api.Val{i64(9)}, n)}), n <= 32, fmt.Sprint(n, " Locals of the Frame ", k))
			}
			for _, n := range []int{0, 1, 32, 33, 39, 40, 41, 42, 296} {
				hold(t, of(state.Frame{Labels: make([]state.Label, n)}), n <= 40, fmt.Sprint(n, " Labels of the Frame ", k))
			}
		}
	}
}

// TestMayOfTheGreatest holds each limit beside all the others.
func TestMayOfTheGreatest(t *testing.T) {
	hold(t, greatest(), true, "the greatest state")
	for about, change := range map[string]func(s *state.State){
		"a value more":                  func(s *state.State) { s.Vals = append(s.Vals, i32(0)) },
		"a Frame more":                  func(s *state.State) { s.Frames = append(s.Frames, state.Frame{}) },
		"a local more, in the first":    func(s *state.State) { s.Frames[0].Locals = append(s.Frames[0].Locals, i32(0)) },
		"a local more, in the last":     func(s *state.State) { s.Frames[31].Locals = append(s.Frames[31].Locals, i32(0)) },
		"a Label more, in the first":    func(s *state.State) { s.Frames[0].Labels = append(s.Frames[0].Labels, state.Label{}) },
		"a Label more, in the last":     func(s *state.State) { s.Frames[31].Labels = append(s.Frames[31].Labels, state.Label{}) },
		"the last value of no kind":     func(s *state.State) { s.Vals[999].Kind = 0 },
		"the last local of no kind":     func(s *state.State) { s.Frames[31].Locals[31].Kind = 3 },
		"the last Height one too great": func(s *state.State) { s.Frames[31].Labels[39].Height++ },
		"the last At one too great":     func(s *state.State) { s.Frames[31].Labels[39].At++ },
		"the last Base one too great":   func(s *state.State) { s.Frames[31].Base++ },
		"Asks one too great":            func(s *state.State) { s.Asks++ },
	} {
		s := greatest()
		change(&s)
		hold(t, s, false, "the greatest state, and "+about)
	}
}

// TestMayOfNumbers holds each number of a state at both ends of its range, and far from it.
func TestMayOfNumbers(t *testing.T) {
	some := []int{math.MinInt, math.MinInt32, -10000, -2, -1, 0, 1, 63, 64, 127, 128, 255, 256, 9999, 10000, 10001, 16383, 16384, 65536,
		math.MaxInt32, math.MaxInt32 + 1, 1 << 32, 1<<32 + 1, math.MaxInt}
	for _, n := range some {
		s := full()
		s.Asks = n
		hold(t, s, n >= -1 && n <= 10000, fmt.Sprint("Asks of ", n))
		hold(t, state.State{Asks: n}, n >= -1 && n <= 10000, fmt.Sprint("Asks of ", n, " alone"))
		for k := range numbers(&s) {
			s := full()
			*numbers(&s)[k] = n
			hold(t, s, n >= 0 && n <= 10000, fmt.Sprint("the number ", k, " of ", n))
		}
	}
}

// TestMayOfValues holds values of each kind, in each place.
func TestMayOfValues(t *testing.T) {
	some := map[api.Val]bool{
		{}: false, {Kind: 0, N: 1}: false, {Kind: 3}: false, {Kind: 3, N: -1}: false, {Kind: -1}: false, {Kind: -2, N: 5}: false, {Kind: 4}: false,
		{Kind: 1 + 1<<32}: false, {Kind: 257}: false, {Kind: math.MinInt}: false, {Kind: math.MaxInt}: false, {Kind: 129}: false,
	}
	for _, n := range []int64{0, 1, -1, 63, 64, -64, -65, math.MinInt32, math.MaxInt32, 10001, -10001} {
		some[i32(n)], some[i64(n)] = true, true
	}
	for _, n := range []int64{math.MinInt32 - 1, math.MaxInt32 + 1, 1 << 32, math.MinInt64, math.MaxInt64} {
		some[i32(n)], some[i64(n)] = false, true
	}
	for v, want := range some {
		s := full()
		for k := range values(&s) {
			s := full()
			*values(&s)[k] = v
			hold(t, s, want, fmt.Sprint("the value ", k, " of ", v))
		}
		hold(t, state.State{Vals: []api.Val{v}}, want, fmt.Sprint("the value ", v, " alone"))
	}
}

// TestSmallest holds the states of which there is least.
func TestSmallest(t *testing.T) {
	hold(t, state.State{}, true, "the zero State")
	hold(t, state.State{Asks: -1}, true, "the zero State with Asks -1")
	hold(t, state.State{Asks: -2}, false, "the zero State with Asks -2")
	hold(t, state.State{Frames: []state.Frame{{}}, Asks: -1}, true, "a Frame of zeros")
	hold(t, full(), true, "several of everything")
}

// TestNilAndEmpty holds that a nil list and an empty one are the same, in each place.
func TestNilAndEmpty(t *testing.T) {
	lists := func(empty bool) state.State {
		s := state.State{Frames: []state.Frame{{Fn: 1}, {Pc: 2}}, Asks: -1}
		if empty {
			s.Vals = []api.Val{}
			s.Frames[0].Locals, s.Frames[0].Labels = []api.Val{}, []state.Label{}
			s.Frames[1].Locals, s.Frames[1].Labels = make([]api.Val, 0, 9), make([]state.Label, 0, 9)
		}
		return s
	}
	for _, two := range [][2]state.State{
		{lists(false), lists(true)},
		{{}, {Vals: []api.Val{}, Frames: []state.Frame{}}},
		{{Asks: -1}, {Vals: []api.Val{}, Asks: -1}},
		{{Asks: -1}, {Frames: make([]state.Frame, 0, 3), Asks: -1}},
	} {
		a, b := two[0], two[1]
		hold(t, a, true, "nil lists")
		hold(t, b, true, "empty lists")
		if !state.Eq(a, b) || !state.Eq(b, a) || string(state.Encode(a)) != string(state.Encode(b)) {
			t.Errorf("P0.4: nil lists and empty ones: %x, %x", state.Encode(a), state.Encode(b))
		}
	}
}

// TestInvalidAreCopiedAndEqual holds that Copy and Eq look at states that are not valid as at all others.
func TestInvalidAreCopiedAndEqual(t *testing.T) {
	odd := func() state.State {
		s := full()
		s.Asks, s.Vals[0].Kind, s.Frames[0].Fn, s.Frames[2].Labels[1].At = math.MinInt, 77, -5, math.MaxInt
		s.Frames[1].Locals = make([]api.Val, 50)
		s.Frames[1].Labels = make([]state.Label, 50)
		return s
	}
	a, b := odd(), state.Copy(odd())
	if told(b) != told(a) || !state.Eq(a, b) {
		t.Errorf("P13.1: Copy of what is not valid: got %s", told(b))
	}
	b.Frames[1].Locals[49].N = 1
	if state.Eq(a, b) || told(a) != told(odd()) {
		t.Errorf("P13.1: Eq of what is not valid")
	}
	b = state.Copy(odd())
	b.Frames[1].Labels[49].At = 1
	if state.Eq(a, b) {
		t.Errorf("P13.1: Eq of what is not valid, in a Label")
	}
}

// TestLongLists holds that lists of any length are no hindrance.
func TestLongLists(t *testing.T) {
	s := full()
	s.Vals = make([]api.Val, 1000000)
	s.Frames = slices.Repeat(s.Frames, 10000)
	s.Frames[20000].Locals = make([]api.Val, 1000000)
	s.Frames[39999].Labels = make([]state.Label, 1000000)
	c := state.Copy(s)
	if state.May(s) || state.Encode(s) != nil || !state.Eq(c, s) {
		t.Errorf("P13.1: long lists")
	}
	c.Frames[39999].Labels[999999].Height++
	if state.Eq(c, s) || state.Eq(s, c) {
		t.Errorf("P13.1: Eq of long lists")
	}
}
