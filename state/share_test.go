package state_test

import (
	"bytes"
	"cmp"
	"fmt"
	"reflect"
	"slices"
	"sync"
	"testing"

	"diapause/api"
	"diapause/state"
)

// span is the memory of one list, with what is spare behind it.
type span struct{ from, to uintptr }

// spans are those of all lists of a value.
func spans(v reflect.Value) []span {
	var all []span
	switch v.Kind() {
	case reflect.Slice:
		if v.Cap() > 0 {
			from := v.Pointer()
			all = append(all, span{from, from + uintptr(v.Cap())*v.Type().Elem().Size()})
		}
		whole := v.Slice3(0, v.Cap(), v.Cap())
		for k := range whole.Len() {
			all = append(all, spans(whole.Index(k))...)
		}
	case reflect.Struct:
		for k := range v.NumField() {
			all = append(all, spans(v.Field(k))...)
		}
	}
	return all
}

// apart tells whether no two lists of these values have memory in common.
func apart(values ...any) bool {
	var all []span
	for _, v := range values {
		all = append(all, spans(reflect.ValueOf(v))...)
	}
	slices.SortFunc(all, func(a, b span) int { return cmp.Compare(a.from, b.from) })
	for k := 1; k < len(all); k++ {
		if all[k].from < all[k-1].to {
			return false
		}
	}
	return true
}

// roomy copies l, and lays spare ones behind it, which are fit to be elements.
func roomy[E any](l []E, spare E) []E {
	return append(slices.Clone(l), slices.Repeat([]E{spare}, 9)...)[:len(l)]
}

// withRoom copies s, so that something is spare behind each of its lists, also behind the empty ones.
func withRoom(s state.State) state.State {
	s.Vals = roomy(s.Vals, i32(5))
	s.Frames = roomy(s.Frames, state.Frame{Fn: 5})
	// What is spare has lists of its own, too.
	for k, f := range s.Frames[:cap(s.Frames)] {
		s.Frames[:cap(s.Frames)][k].Locals = roomy(f.Locals, i64(6))
		s.Frames[:cap(s.Frames)][k].Labels = roomy(f.Labels, state.Label{At: 6, Height: 6})
	}
	return s
}

// whole tells a state with all that is spare behind its lists.
func whole(s state.State) string {
	s.Vals = s.Vals[:cap(s.Vals)]
	s.Frames = slices.Clone(s.Frames[:cap(s.Frames)])
	for k, f := range s.Frames {
		s.Frames[k].Locals = f.Locals[:cap(f.Locals)]
		s.Frames[k].Labels = f.Labels[:cap(f.Labels)]
	}
	return told(s)
}

// fill overwrites l and what is spare behind it.
func fill[E any](l []E, x E) {
	l = l[:cap(l)]
	for k := range l {
		l[k] = x
	}
}

// spoil overwrites all lists of s.
func spoil(s state.State) {
	for _, f := range s.Frames[:cap(s.Frames)] {
		fill(f.Locals, i64(77))
		fill(f.Labels, state.Label{At: 77, Height: 77})
	}
	fill(s.Vals, i64(77))
	fill(s.Frames, state.Frame{Fn: 77, Locals: []api.Val{i64(77)}})
}

// validAndNot are states, and what is none.
func validAndNot() []state.State {
	all := []state.State{greatest(), {Vals: make([]api.Val, 1001)}, {Asks: -2}, {Frames: make([]state.Frame, 33)}}
	for _, s := range some() {
		all = append(all, s)
	}
	for _, k := range []int{0, 5} {
		s := full()
		values(&s)[k].Kind = 9
		all = append(all, s)
	}
	return append(all, turned()...)
}

// TestArgumentsStay holds all calls against P0.3: what is handed in stays as it is, with what is spare behind it.
func TestArgumentsStay(t *testing.T) {
	for k, s := range validAndNot() {
		s, other := withRoom(s), withRoom(full())
		want, wantOther := whole(s), whole(other)
		state.May(s)
		state.Copy(s)
		state.Eq(s, s)
		state.Eq(s, other)
		state.Eq(other, s)
		state.Encode(s)
		if whole(s) != want || whole(other) != wantOther {
			t.Errorf("P0.3: the state %d became %s", k, whole(s))
		}
		b := roomy(written(s), 0)
		text := bytes.Clone(b[:cap(b)])
		state.Decode(b)
		for cut := 0; cut < len(b); cut += 1 + len(b)/20 {
			state.Decode(b[:cut])
		}
		if !bytes.Equal(b[:cap(b)], text) {
			t.Errorf("P0.3: Decode changed the bytes of the state %d", k)
		}
	}
}

// TestCopyIsFresh holds that a copy has nothing in common with what it was made of, nor with another copy, in either direction.
func TestCopyIsFresh(t *testing.T) {
	for k, s := range validAndNot() {
		s = withRoom(s)
		plain, want := told(s), whole(s)
		first, second := state.Copy(s), state.Copy(s)
		if !apart(s, first, second) {
			t.Errorf("P13.1: Copy of the state %d shares memory", k)
		}
		spoil(first)
		if whole(s) != want || told(second) != plain {
			t.Errorf("P13.1: Copy of the state %d: a change of the copy shows", k)
		}
		grow(second)
		if whole(s) != want || told(second) != plain {
			t.Errorf("P13.1: Copy of the state %d: what is appended to the copy shows", k)
		}
		spoil(s)
		if told(second) != plain {
			t.Errorf("P13.1: Copy of the state %d: a change of what it was made of shows", k)
		}
	}
}

// grow appends to each list of s.
func grow(s state.State) {
	_ = append(s.Vals, i32(88))
	for _, f := range s.Frames {
		_ = append(f.Locals, i32(88))
		_ = append(f.Labels, state.Label{At: 88})
	}
	_ = append(s.Frames, state.Frame{Fn: 88})
}

// TestCopyOfEachPart holds that a change of a single part of a copy, or of what it was made of, stays there.
func TestCopyOfEachPart(t *testing.T) {
	alone := func(about string, change func(s *state.State)) {
		for _, turn := range []bool{false, true} {
			s := full()
			c := state.Copy(s)
			if turn {
				s, c = c, s
			}
			change(&c)
			if told(s) != told(full()) || told(c) == told(full()) {
				t.Errorf("P13.1: Copy: a change of %s shows in the other one", about)
			}
		}
	}
	s := full()
	for k := range numbers(&s) {
		alone(fmt.Sprint("the number ", k), func(s *state.State) { *numbers(s)[k] = 4321 })
	}
	for k := range values(&s) {
		alone(fmt.Sprint("the value ", k), func(s *state.State) { *values(s)[k] = i64(4321) })
	}
	alone("Asks", func(s *state.State) { s.Asks = 4321 })
}

// TestCopyOfOneListInSeveralPlaces holds that the lists of a copy share nothing where those that it was made of are one.
func TestCopyOfOneListInSeveralPlaces(t *testing.T) {
	s := full()
	for k := range s.Frames {
		s.Frames[k].Locals, s.Frames[k].Labels = s.Vals, s.Frames[2].Labels
	}
	c := state.Copy(s)
	if told(c) != told(s) || !apart(c) {
		t.Errorf("P0.3: Copy: the lists of a copy share memory: %s", told(c))
	}
}

// TestEncodeIsFresh holds the results of Encode against P0.3: no shared memory, neither used nor spare, and none kept.
func TestEncodeIsFresh(t *testing.T) {
	for k, s := range validAndNot() {
		s = withRoom(s)
		want, text := whole(s), state.Encode(s)
		first, second := state.Encode(s), state.Encode(s)
		if !apart(s, text, first, second) {
			t.Errorf("P0.3: Encode of the state %d shares memory", k)
		}
		fill(first, 6)
		if whole(s) != want || !bytes.Equal(second, text) || !bytes.Equal(state.Encode(s), text) {
			t.Errorf("P0.3: Encode of the state %d shares memory that is overwritten", k)
		}
		spoil(s)
		if !bytes.Equal(second, text) {
			t.Errorf("P0.3: Encode of the state %d hangs on its argument", k)
		}
	}
}

// TestDecodeIsFresh does the same for Decode, and holds its lists against one another.
func TestDecodeIsFresh(t *testing.T) {
	for k, s := range validAndNot() {
		if !may(s) {
			continue
		}
		b := roomy(state.Encode(s), 0)
		text := bytes.Clone(b[:cap(b)])
		first, err := state.Decode(b)
		second, again := state.Decode(b)
		if err != api.OK || again != api.OK {
			t.Errorf("P13.1: Decode of the state %d: got %d and %d", k, err, again)
		}
		if !apart(b, first, second) {
			t.Errorf("P0.3: Decode of the state %d shares memory", k)
		}
		spoil(first)
		grow(second)
		if !bytes.Equal(b[:cap(b)], text) || told(second) != told(s) {
			t.Errorf("P0.3: Decode of the state %d shares memory that is overwritten", k)
		}
		if third, err := state.Decode(b); told(third) != told(s) || err != api.OK {
			t.Errorf("P0.3: Decode of the state %d keeps its result: got %s, %d", k, told(third), err)
		}
		fill(b, 7)
		if told(second) != told(s) {
			t.Errorf("P0.3: Decode of the state %d hangs on its argument", k)
		}
	}
}

// TestErrorsLeaveNothing holds P0.5: what was asked before changes no answer.
func TestErrorsLeaveNothing(t *testing.T) {
	b := state.Encode(full())
	for cut := range b {
		refuse(t, b[:cut], "a prefix")
		state.Encode(state.State{Asks: -2})
		hold(t, full(), true, "behind a prefix")
		hold(t, state.State{Asks: -1}, true, "behind a prefix")
	}
}

// TestAtOnce holds the same for calls that are made at the same time, with the same arguments.
func TestAtOnce(t *testing.T) {
	s := withRoom(full())
	b := state.Encode(s)
	var group sync.WaitGroup
	for range 4 {
		group.Go(func() {
			for range 50 {
				hold(t, s, true, "at once")
				spoil(state.Copy(s))
				fill(state.Encode(s), 7)
				x, err := state.Decode(b)
				if err != api.OK || !state.Eq(x, s) {
					t.Errorf("P13.1: Decode at once: got %d", err)
				}
				spoil(x)
			}
		})
	}
	group.Wait()
}
