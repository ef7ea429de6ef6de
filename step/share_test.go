package step_test

import (
	"cmp"
	"fmt"
	"math"
	"math/rand/v2"
	"reflect"
	"slices"
	"sync"
	"testing"

	"diapause/api"
	"diapause/inst"
	"diapause/state"
	"diapause/step"
)

// span is the memory of one list, with what is spare behind it.
type span struct{ from, to uintptr }

// spans are those of all lists of a value.
func spans(v reflect.Value) []span {
	var all []span
	switch v.Kind() {
	case reflect.Slice:
		if v.Cap() > 0 {
			from := v.Pointer()
			all = append(all, span{from, from + uintptr(v.Cap())*v.Type().Elem().Size()})
		}
		for k := range v.Len() {
			all = append(all, spans(v.Index(k))...)
		}
	case reflect.Struct:
		for k := range v.NumField() {
			all = append(all, spans(v.Field(k))...)
		}
	}
	return all
}

// apart tells whether no two lists of these values have memory in common.
func apart(values ...any) bool {
	var all []span
	for _, v := range values {
		all = append(all, spans(reflect.ValueOf(v))...)
	}
	slices.SortFunc(all, func(a, b span) int { return cmp.Compare(a.from, b.from) })
	for k := 1; k < len(all); k++ {
		if all[k].from < all[k-1].to {
			return false
		}
	}
	return true
}

// roomy copies l, and lays spare ones behind it.
func roomy[E any](l []E, spare E) []E {
	return append(slices.Clone(l), slices.Repeat([]E{spare}, 5)...)[:len(l)]
}

// withRoom copies s, so that something is spare behind each of its lists.
func withRoom(s state.State) state.State {
	s.Vals, s.Frames = roomy(s.Vals, i64(55)), roomy(s.Frames, state.Frame{Fn: 55})
	for k, f := range s.Frames {
		s.Frames[k].Locals, s.Frames[k].Labels = roomy(f.Locals, i64(66)), roomy(f.Labels, state.Label{At: 66, Height: 66})
	}
	return s
}

// whole tells a state with all that is spare behind its lists.
func whole(s state.State) string {
	text := fmt.Sprint(s.Asks, s.Vals[:cap(s.Vals)])
	for _, f := range s.Frames[:cap(s.Frames)] {
		text += fmt.Sprint(" ", f.Fn, f.Pc, f.Base, f.Locals[:cap(f.Locals)], f.Labels[:cap(f.Labels)], len(f.Locals), len(f.Labels))
	}
	return text
}

// fill overwrites l and what is spare behind it.
func fill[E any](l []E, x E) {
	for k := range l[:cap(l)] {
		l[:cap(l)][k] = x
	}
}

// busy is a module of which the function own does a bit of everything.
func busy() api.Module {
	return of(fn{kind: 1, locals: []int{api.I32, api.I64}, body: "41,3 45 1a 41,3 21,0 02,1 41,8 42,9 22,1 1a 20,0 10,5 41,1 41,1 11,2 6a 6a 0b 42,1 41,2 10,2 1a 10,3 6a " +
		"03 20,0 41,1 6b 22,0 0d,0 0b 41,300 20,0 36,0,0 41,1 40 1a 41,9 24,0 02 41,7 41,8 0c,0 0b 10,1 0f"},
		fn{kind: 2, body: "20,0 41,5 22,0 6a 02 02 41,3 0e,0,1,1 0b 0b 41,7 41,8 20,0 1b 1a"})
}

// run goes through the function own of busy, and lets look around each call that is made.
func run(t *testing.T, x *inst.Inst, look func(s *state.State, call func() api.Outcome)) string {
	s := state.State{Asks: -1}
	all := ""
	look(&s, func() api.Outcome { return step.Call(x, &s, own, nil) })
	for range 300 {
		var out api.Outcome
		var text string
		look(&s, func() api.Outcome {
			out = step.Step(x, &s)
			// Before anything is done to it.
			text = told(out)
			return out
		})
		switch out.Kind {
		case api.Asks:
			look(&s, func() api.Outcome {
				step.Answer(x, &s, 20)
				return out
			})
		case api.Done:
			return all + text
		}
		all += text + " " + standing(&s) + ", "
	}
	t.Errorf("the test itself: it does not end")
	return ""
}

// TestListsStay holds P0.3: the lists that a state had when a call was made are as they were, with what was spare behind them.
func TestListsStay(t *testing.T) {
	want := run(t, made(t, busy()), func(_ *state.State, call func() api.Outcome) { call() })
	got := run(t, made(t, busy()), func(s *state.State, call func() api.Outcome) {
		*s = withRoom(*s)
		was := *s
		text := whole(was)
		out := call()
		if whole(was) != text {
			t.Errorf("P0.3: a list that was handed in became %s, was %s", whole(was), text)
		}
		if !apart(*s, out) {
			t.Errorf("P0.3: %s shares memory with the state", told(out))
		}
	})
	if got != want {
		t.Errorf("P0.5: with room behind the lists: got %s, want %s", got, want)
	}
}

// TestOutcomesStandAlone holds that what is done to the Vals of an Outcome does not show in the state, nor the other way round.
func TestOutcomesStandAlone(t *testing.T) {
	want := run(t, made(t, busy()), func(_ *state.State, call func() api.Outcome) { call() })
	var outs []api.Outcome
	var texts []string
	got := run(t, made(t, busy()), func(s *state.State, call func() api.Outcome) {
		out := call()
		text := whole(*s)
		for _, other := range outs {
			if !apart(other, out) {
				t.Errorf("P0.3: %s and %s share memory", told(other), told(out))
			}
		}
		copied := out
		copied.Vals = slices.Clone(out.Vals)
		outs, texts = append(outs, copied), append(texts, told(out))
		_ = append(out.Vals, i64(99))
		fill(out.Vals, i64(77))
		if whole(*s) != text {
			t.Errorf("P0.3: a change of the Vals of %s shows in the state", told(copied))
		}
	})
	if got != want {
		t.Errorf("P0.3: with Vals overwritten: got %s, want %s", got, want)
	}
	for k, out := range outs {
		if told(out) != texts[k] {
			t.Errorf("P0.3: an Outcome became %s, was %s", told(out), texts[k])
		}
	}
}

// TestDoneStandsAlone holds the same of the result, which the state contains, too.
func TestDoneStandsAlone(t *testing.T) {
	x := made(t, of(fn{kind: 1, body: "41,5"}))
	for _, n := range []int{0, 3} {
		s := state.State{Vals: vals(n), Asks: -1}
		step.Call(x, &s, own, nil)
		step.Step(x, &s)
		out := step.Step(x, &s)
		if told(out) != "done 5" || !slices.Equal(s.Vals, append(vals(n), i32(5))) || len(s.Frames) > 0 || !apart(s, out) {
			t.Errorf("P14.2: Done on %d Vals: got %s, %v", n, told(out), s)
		}
		out.Vals[0] = i32(9)
		if !slices.Equal(s.Vals, append(vals(n), i32(5))) {
			t.Errorf("P0.3: Done: a change of its Vals shows in the state: %v", s.Vals)
		}
	}
}

// TestArgsStay holds that Call keeps a copy of its arguments.
func TestArgsStay(t *testing.T) {
	x := made(t, of(fn{kind: 3, body: "42,7 21,0 41,8 21,1 20,0 20,1 ac 7c", locals: []int{api.I64}}))
	args := roomy([]api.Val{i64(1), i32(2)}, i64(66))
	text := fmt.Sprint(args[:cap(args)])
	s := state.State{Asks: -1}
	step.Call(x, &s, own, args)
	for range 4 {
		step.Step(x, &s)
	}
	if got := fmt.Sprint(args[:cap(args)]); got != text || !slices.Equal(s.Frames[0].Locals, []api.Val{i64(7), i32(8), i64(0)}) {
		t.Errorf("P0.3: Call: the arguments became %s, the Locals %v", got, s.Frames[0].Locals)
	}
	fill(args, i64(99))
	if !slices.Equal(s.Frames[0].Locals, []api.Val{i64(7), i32(8), i64(0)}) {
		t.Errorf("P0.3: Call keeps its arguments: %v", s.Frames[0].Locals)
	}
	// Also where nothing but arguments becomes Locals.
	y := made(t, of(fn{kind: 2, body: "20,0"}))
	one := []api.Val{i32(5)}
	step.Call(y, &s, own, one)
	one[0] = i32(6)
	if got := s.Frames[1].Locals; !slices.Equal(got, []api.Val{i32(5)}) {
		t.Errorf("P0.3: Call keeps its arguments: %v", got)
	}
}

// TestNothingGiven holds P0.1 for what is not there.
func TestNothingGiven(t *testing.T) {
	x := made(t, of(fn{kind: 1, body: "41,5"}))
	for about, out := range map[string]api.Outcome{
		"Call without all":         step.Call(nil, nil, 0, nil),
		"Call without a state":     step.Call(x, nil, own, nil),
		"Call without an instance": step.Call(nil, &state.State{Asks: -1}, own, nil),
		"Step without all":         step.Step(nil, nil),
		"Step without a state":     step.Step(x, nil),
		"Step without a Frame":     step.Step(x, &state.State{Asks: -1}),
		"Step without an instance": step.Step(nil, &state.State{Asks: -1, Frames: []state.Frame{{Fn: own}}}),
	} {
		if told(out) != "none" {
			t.Errorf("P0.1: %s: got %s", about, told(out))
		}
	}
	if step.Answer(nil, nil, 1) || step.Answer(x, nil, 1) || step.Answer(nil, &state.State{}, 1) {
		t.Errorf("P0.1: Answer without what it needs")
	}
	for _, f := range []int{-1, ask, tell, wide, now, own + 1, 1000, math.MaxInt, math.MinInt} {
		s := state.State{Vals: vals(3), Frames: frames(2), Asks: -1}
		was := state.Copy(s)
		if got := told(step.Call(x, &s, f, vals(2))); got != "none" || !state.Eq(s, was) {
			t.Errorf("P0.1: Call of the function %d: got %s, %v", f, got, s)
		}
	}
	s := state.State{Asks: -1}
	if got := told(step.Call(x, &s, own, vals(100000))); got != "more" || len(s.Frames[0].Locals) != 100000 {
		t.Errorf("P0.1: Call with too many arguments: got %s", got)
	}
}

// oddNumber is one that is fit for hardly any place.
func oddNumber(r *rand.Rand) int {
	return []int{-1, -2, 0, 1, 5, 40, 300, 1000, math.MaxInt, math.MinInt, math.MaxInt32}[r.IntN(11)]
}

// odd changes some of a state, so that no step can have left it.
func odd(r *rand.Rand, s state.State) state.State {
	s = state.Copy(s)
	for range 1 + r.IntN(3) {
		k := r.IntN(len(s.Frames))
		f := &s.Frames[k]
		switch r.IntN(10) {
		case 0:
			f.Fn = oddNumber(r)
		case 1, 2:
			f.Pc = oddNumber(r)
		case 3:
			f.Base = oddNumber(r)
		case 4:
			f.Locals = nil
		case 5:
			f.Labels = append(f.Labels, state.Label{At: oddNumber(r), Height: oddNumber(r)})
		case 6:
			f.Labels = nil
		case 7:
			s.Vals = nil
		case 8:
			for j := range s.Vals {
				s.Vals[j].Kind = r.IntN(4)
			}
		case 9:
			s.Asks = oddNumber(r)
		}
	}
	return s
}

// TestOddStates holds P0.1 and P0.5: no state makes a call panic, what does not go on changes nothing, and twice the same comes out.
func TestOddStates(t *testing.T) {
	r := rand.New(rand.NewPCG(14, 3))
	count := map[string]int{}
	run(t, made(t, busy()), func(s *state.State, call func() api.Outcome) {
		for range 100 {
			if len(s.Frames) == 0 {
				break
			}
			first := odd(r, *s)
			second, was := withRoom(first), state.Copy(first)
			x, y := made(t, busy()), made(t, busy())
			before := content(x)
			out := step.Step(x, &first)
			if other := step.Step(y, &second); told(other) != told(out) || !state.Eq(first, second) || content(x) != content(y) {
				t.Fatalf("P0.5: of %v came %s and %s", was, told(out), told(other))
			}
			if stops := out.Kind != api.More && out.Kind != api.Asks && out.Kind != api.Done; stops && (!state.Eq(first, was) || content(x) != before) {
				t.Fatalf("P0.1: %s changed %v to %v", told(out), was, first)
			}
			count[told(out)[:4]]++
			step.Answer(x, &first, 5)
			step.Call(x, &first, own, nil)
		}
		call()
	})
	if count["none"] < 500 || count["more"] < 500 {
		t.Errorf("the test itself: %v", count)
	}
}

// TestAtOnce holds that several instances have nothing in common.
func TestAtOnce(t *testing.T) {
	plainly := func(_ *state.State, call func() api.Outcome) { call() }
	want := run(t, made(t, busy()), plainly)
	var group sync.WaitGroup
	for range 4 {
		group.Go(func() {
			for range 20 {
				x, err := inst.New(busy())
				if err != api.OK {
					t.Errorf("the test itself: %d", err)
					return
				}
				if got := run(t, x, plainly); got != want {
					t.Errorf("P0.5: at once: got %s, want %s", got, want)
				}
			}
		})
	}
	group.Wait()
}

// TestTwoStates holds that two states of one instance have the memory in common, and nothing else.
func TestTwoStates(t *testing.T) {
	x := made(t, of(fn{kind: 2, body: "41,8 20,0 36,0,0 41,8 28,0,0"}))
	a, b := begun(t, x, i32(5)), begun(t, x, i32(6))
	for range 3 {
		step.Step(x, a)
		step.Step(x, b)
	}
	for range 2 {
		step.Step(x, a)
	}
	if standing(a) != "5 6:" || standing(b) != "3:" {
		t.Errorf("P14.2: two states: %s and %s", standing(a), standing(b))
	}
}
