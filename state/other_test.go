package state_test

import (
	"slices"
	"testing"

	"diapause/api"
	"diapause/state"
)

// turned are states that differ from full in one part each.
func turned() []state.State {
	all := slices.Concat(otherNumbers(), otherValues())
	for _, change := range slices.Concat(listChanges(), places()) {
		s := full()
		change(&s)
		all = append(all, s)
	}
	return all
}

// otherNumbers are those in which a number is another one.
func otherNumbers() []state.State {
	var all []state.State
	for _, n := range []int{-1, 0, 1, 2, 4, 10000} {
		s := full()
		s.Asks = n
		all = append(all, s)
	}
	count := len(numbers(new(full())))
	for k := range count {
		for _, n := range []int{0, 1, 2, 18, 255, 256, 5000} {
			s := full()
			*numbers(&s)[k] = n
			all = append(all, s)
		}
		// Two numbers that have changed places.
		for j := range k {
			s := full()
			x, y := numbers(&s)[k], numbers(&s)[j]
			*x, *y = *y, *x
			all = append(all, s)
		}
	}
	return all
}

// otherValues are those in which a value is another one.
func otherValues() []state.State {
	var all []state.State
	count := len(values(new(full())))
	for k := range count {
		for _, v := range []api.Val{i32(0), i64(0), i32(2), i64(2), i32(-1<<31 + 1), i64(-1<<31 + 1), i32(0x7f), i64(0x7f)} {
			s := full()
			*values(&s)[k] = v
			all = append(all, s)
		}
		s := full()
		v := values(&s)[k]
		*v = api.Val{Kind: 3 - v.Kind, N: int64(int32(v.N))}
		all = append(all, s)
		for j := range k {
			s := full()
			x, y := values(&s)[k], values(&s)[j]
			*x, *y = *y, *x
			all = append(all, s)
		}
	}
	return all
}

// listChanges are those of a list of full: one element less, one more, another order, none.
func listChanges() []func(s *state.State) {
	return []func(s *state.State){
		func(s *state.State) { s.Vals = nil },
		func(s *state.State) { s.Vals = s.Vals[1:] },
		func(s *state.State) { s.Vals = s.Vals[:3] },
		func(s *state.State) { s.Vals = append(s.Vals, i32(0)) },
		func(s *state.State) { s.Vals = append(s.Vals, s.Vals[3]) },
		func(s *state.State) { s.Vals = slices.Insert(s.Vals, 0, i32(0)) },
		func(s *state.State) { slices.Reverse(s.Vals) },
		func(s *state.State) { s.Frames = nil },
		func(s *state.State) { s.Frames = s.Frames[1:] },
		func(s *state.State) { s.Frames = s.Frames[:3] },
		func(s *state.State) { s.Frames = append(s.Frames, state.Frame{}) },
		func(s *state.State) { s.Frames = slices.Insert(s.Frames, 0, state.Frame{}) },
		func(s *state.State) { s.Frames = slices.Insert(s.Frames, 2, s.Frames[1]) },
		func(s *state.State) { slices.Reverse(s.Frames) },
		func(s *state.State) { s.Frames[0].Locals = nil },
		func(s *state.State) { s.Frames[0].Locals = s.Frames[0].Locals[1:] },
		func(s *state.State) { s.Frames[0].Locals = s.Frames[0].Locals[:1] },
		func(s *state.State) { slices.Reverse(s.Frames[0].Locals) },
		func(s *state.State) { s.Frames[1].Locals = append(s.Frames[1].Locals, i32(0)) },
		func(s *state.State) { s.Frames[3].Locals = append(s.Frames[3].Locals, i64(-1)) },
		func(s *state.State) { s.Frames[0].Labels = nil },
		func(s *state.State) { s.Frames[1].Labels = append(s.Frames[1].Labels, state.Label{}) },
		func(s *state.State) { s.Frames[2].Labels = s.Frames[2].Labels[1:] },
		func(s *state.State) { s.Frames[2].Labels = s.Frames[2].Labels[:2] },
		func(s *state.State) { slices.Reverse(s.Frames[2].Labels) },
		func(s *state.State) { s.Frames[3].Labels = append(s.Frames[3].Labels, state.Label{At: 1}) },
	}
}

// places lay something of full into another list.
func places() []func(s *state.State) {
	return []func(s *state.State){
		func(s *state.State) {
			s.Frames[0].Locals = slices.Insert(s.Frames[0].Locals, 0, s.Vals[3])
			s.Vals = s.Vals[:3]
		},
		func(s *state.State) {
			s.Frames[3].Locals = append(s.Frames[3].Locals, s.Vals[0])
			s.Vals = s.Vals[1:]
		},
		func(s *state.State) {
			s.Vals = append(s.Vals, s.Frames[0].Locals[0])
			s.Frames[0].Locals = s.Frames[0].Locals[1:]
		},
		func(s *state.State) { s.Frames[0].Locals, s.Frames[1].Locals = s.Frames[1].Locals, s.Frames[0].Locals },
		func(s *state.State) { s.Frames[2].Locals, s.Frames[3].Locals = s.Frames[3].Locals, s.Frames[2].Locals },
		func(s *state.State) {
			s.Frames[1].Locals = s.Frames[0].Locals[1:]
			s.Frames[0].Locals = s.Frames[0].Locals[:1]
		},
		func(s *state.State) {
			s.Frames[2].Locals = append(s.Frames[2].Locals, s.Frames[3].Locals[0])
			s.Frames[3].Locals = s.Frames[3].Locals[1:]
		},
		func(s *state.State) { s.Frames[0].Labels, s.Frames[1].Labels = s.Frames[1].Labels, s.Frames[0].Labels },
		func(s *state.State) { s.Frames[2].Labels, s.Frames[3].Labels = s.Frames[3].Labels, s.Frames[2].Labels },
		func(s *state.State) {
			s.Frames[3].Labels = s.Frames[2].Labels[2:]
			s.Frames[2].Labels = s.Frames[2].Labels[:2]
		},
		func(s *state.State) {
			s.Frames[1].Labels = s.Frames[2].Labels[:1]
			s.Frames[2].Labels = s.Frames[2].Labels[1:]
		},
	}
}

// small are all the states with at most two Vals, Frames, Locals and Labels in each of them, and one number everywhere, which may
// be taken for how many there are of something.
func small() []state.State {
	var frames []state.Frame
	for locals := range 3 {
		for labels := range 3 {
			frames = append(frames, state.Frame{Locals: make([]api.Val, locals), Labels: make([]state.Label, labels)})
		}
	}
	lists := [][]state.Frame{nil}
	for _, f := range frames {
		lists = append(lists, []state.Frame{f})
		for _, g := range frames {
			lists = append(lists, []state.Frame{f, g})
		}
	}
	var all []state.State
	for _, l := range lists {
		for vals := range 3 {
			for asks := -1; asks <= 2; asks++ {
				for n := range 4 {
					all = append(all, filled(state.State{Vals: make([]api.Val, vals), Frames: l, Asks: asks}, n))
				}
			}
		}
	}
	return all
}

// filled is a copy of s with n as each number; the values are of the kinds that n can be taken for.
func filled(s state.State, n int) state.State {
	s.Vals = slices.Clone(s.Vals)
	s.Frames = slices.Clone(s.Frames)
	for k := range s.Frames {
		s.Frames[k].Locals = slices.Clone(s.Frames[k].Locals)
		s.Frames[k].Labels = slices.Clone(s.Frames[k].Labels)
	}
	for _, x := range numbers(&s) {
		*x = n
	}
	for _, v := range values(&s) {
		*v = api.Val{Kind: 1 + n%2, N: int64(n)}
	}
	return s
}

// distinct holds that of all these states the same ones have the same encoding, and no others.
func distinct(t *testing.T, all []state.State, about string) {
	t.Helper()
	encodings, states := map[string]string{}, map[string]string{}
	for _, s := range all {
		b, told := string(state.Encode(s)), told(s)
		if before, ok := encodings[told]; ok && before != b {
			t.Errorf("P13.1: %s: two encodings of %s: %x and %x", about, told, before, b)
		}
		if before, ok := states[b]; ok && before != told {
			t.Errorf("P13.1: %s: one encoding of %s and of %s: %x", about, before, told, b)
		}
		encodings[told], states[b] = b, told
	}
}

// unlike holds Eq of a and of b, in both directions, of which it is known how they are told.
func unlike(t *testing.T, a, b state.State, toldA, toldB string) {
	t.Helper()
	want := toldA == toldB
	if got, turned := state.Eq(a, b), state.Eq(b, a); got != want || turned != want {
		t.Errorf("P13.1: Eq of %s and of %s: got %t, and %t the other way", toldA, toldB, got, turned)
	}
}

// TestTurned holds that states that differ in one part are unlike one another, and have unlike encodings.
func TestTurned(t *testing.T) {
	all := append(turned(), full(), full())
	var lines []string
	for k, a := range all {
		hold(t, a, true, "one part of many")
		lines = append(lines, told(a))
		for j, b := range all[:k] {
			unlike(t, a, b, lines[k], lines[j])
		}
	}
	distinct(t, all, "one part of many")
}

// TestSmall holds that small states have unlike encodings.
func TestSmall(t *testing.T) {
	all := small()
	var lines []string
	for k, a := range all {
		hold(t, a, true, "a small state")
		lines = append(lines, told(a))
		for j := max(0, k-100); j <= k; j++ {
			unlike(t, a, all[j], lines[k], lines[j])
		}
	}
	distinct(t, all, "a small state")
}
