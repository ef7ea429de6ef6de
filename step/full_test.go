package step_test

import (
	"strconv"
	"testing"

	"diapause/api"
	"diapause/inst"
	"diapause/state"
	"diapause/step"
)

// withLocals is a module whose function own has this body, and a local of each kind.
func withLocals(body string) api.Module {
	m := of(fn{body: body}, fn{})
	m.Funcs[0] = len(m.Types)
	m.Types = append(m.Types, api.Type{Params: []int{api.I32, api.I64}})
	return m
}

// stands is a state with so many Vals in which the function own stands at pc, and has a local of each kind.
func stands(n, pc int) state.State {
	return state.State{Vals: vals(n), Frames: []state.Frame{{Fn: own, Pc: pc, Locals: []api.Val{i32(3), i64(4)}}}, Asks: -1}
}

// on is stands with these values on top.
func on(n, pc int, top ...api.Val) state.State {
	s := stands(n-len(top), pc)
	s.Vals = append(s.Vals, top...)
	return s
}

// held executes a step that must tell want, and that must change nothing at all if it traps or is exhausted.
func held(t *testing.T, x *inst.Inst, s state.State, want, about string) state.State {
	t.Helper()
	was, before := state.Copy(s), content(x)
	got := told(step.Step(x, &s))
	if got != want {
		t.Errorf("P14.2: %s: got %s, want %s", about, got, want)
	}
	stopped := want == "exhausted" || want[:4] == "trap"
	if stopped && (!state.Eq(s, was) || content(x) != before) {
		t.Errorf("P14.2: %s: %s has changed something: %v, was %v", about, want, s, was)
	}
	if !stopped && s.Frames != nil && s.Frames[0].Pc == was.Frames[0].Pc {
		t.Errorf("P14.2: %s: it does not go on", about)
	}
	return s
}

// TestFull holds each instruction that pushes more than it takes at 998 to 1,000 Vals.
func TestFull(t *testing.T) {
	for _, body := range []string{"41,9", "42,9", "20,0", "20,1", "23,0", "23,2", "3f"} {
		x := made(t, withLocals(body+" 1a"))
		for n, want := range map[int]string{0: "more", 998: "more", 999: "more", 1000: "exhausted"} {
			s := held(t, x, stands(n, 0), want, body+" on "+strconv.Itoa(n)+" Vals")
			if want == "more" && len(s.Vals) != n+1 {
				t.Errorf("P14.2: %s on %d Vals: there are %d now", body, n, len(s.Vals))
			}
		}
	}
}

// TestFullAndNoMore holds that no other instruction is exhausted by 1,000 Vals.
func TestFullAndNoMore(t *testing.T) {
	for _, c := range []struct {
		body string
		top  []api.Val
		left int
	}{
		{"01", nil, 1000}, {"02 0b", nil, 1000}, {"03 0b", nil, 1000}, {"1a", []api.Val{i64(1)}, 999}, {"1b 1a", []api.Val{i32(1), i32(2), i32(0)}, 998},
		{"04 0b", []api.Val{i32(0)}, 999}, {"04 0b", []api.Val{i32(1)}, 999}, {"21,0", []api.Val{i32(1)}, 999}, {"22,0 1a", []api.Val{i32(1)}, 1000},
		{"24,0", []api.Val{i32(1)}, 999}, {"45 1a", []api.Val{i32(1)}, 1000}, {"6a 1a", []api.Val{i32(1), i32(2)}, 999}, {"ac 1a", []api.Val{i32(1)}, 1000},
		{"28,0,0 1a", []api.Val{i32(0)}, 1000}, {"29,0,0 1a", []api.Val{i32(0)}, 1000}, {"2c,0,0 1a", []api.Val{i32(0)}, 1000}, {"2d,0,0 1a", []api.Val{i32(0)}, 1000},
		{"36,0,0", []api.Val{i32(0), i32(1)}, 998}, {"37,0,0", []api.Val{i32(0), i64(1)}, 998}, {"3a,0,0", []api.Val{i32(0), i32(1)}, 998},
		{"40 1a", []api.Val{i32(1)}, 1000}, {"0d,0", []api.Val{i32(0)}, 999}, {"10,5", nil, 1000},
	} {
		// Before the instruction stands what makes the body valid.
		before := 0
		body := c.body
		for k := len(c.top) - 1; k >= 0; k-- {
			body = "4" + strconv.Itoa(c.top[k].Kind) + ",0 " + body
			before++
		}
		x := made(t, withLocals(body))
		s := held(t, x, on(1000, before, c.top...), "more", c.body+" on 1,000 Vals")
		if len(s.Vals) != c.left {
			t.Errorf("P14.2: %s on 1,000 Vals: %d are left, not %d", c.body, len(s.Vals), c.left)
		}
	}
	// Behind a loop stands its Label, and behind a call a Frame, with 1,000 Vals.
	x := made(t, of(fn{body: "03 41,1 0d,0 0b"}))
	s := on(1000, 2, i32(1))
	s.Frames[0].Labels = []state.Label{{At: 0, Height: 999}}
	s = held(t, x, s, "more", "br_if on 1,000 Vals")
	if standing(&s) != "1"+list(vals(999))+": 0/999" {
		t.Errorf("P14.2: br_if on 1,000 Vals: got %s", standing(&s))
	}
}

// TestFullOfRequests holds that the result of an import counts as soon as it is requested.
func TestFullOfRequests(t *testing.T) {
	for _, c := range []struct {
		body string
		pc   int
		n    int
		top  []api.Val
		want string
	}{
		{"10,3 1a", 0, 999, nil, "asks 3"}, {"10,3 1a", 0, 1000, nil, "exhausted"},
		{"10,1", 0, 1000, nil, "asks 1"},
		{"41,5 10,0 1a", 1, 1000, []api.Val{i32(5)}, "asks 0 5"}, {"41,5 10,0 1a", 1, 999, []api.Val{i32(5)}, "asks 0 5"},
		{"42,5 41,6 10,2 1a", 2, 1000, []api.Val{i64(5), i32(6)}, "asks 2 5L 6"},
		{"41,1 41,1 11,2 1a", 2, 1000, []api.Val{i32(9), i32(1)}, "asks 0 9"},
		{"41,3 11,0", 1, 1000, []api.Val{i32(3)}, "asks 1"},
		// Of what can't be asked nothing comes before the trap.
		{"41,0 11,0", 1, 1000, []api.Val{i32(0)}, "trap 5"}, {"41,1 11,0", 1, 1000, []api.Val{i32(1)}, "trap 6"},
	} {
		x := made(t, of(fn{body: c.body}))
		s := held(t, x, on(c.n, c.pc, c.top...), c.want, c.body+" on "+strconv.Itoa(c.n)+" Vals")
		if c.want[:4] != "asks" {
			continue
		}
		if len(s.Vals) != c.n-len(c.top) || s.Frames[0].Pc != c.pc+1 || !step.Answer(x, &s, 7) || len(s.Vals) > 1000 {
			t.Errorf("P14.2: %s on %d Vals: %d are left", c.body, c.n, len(s.Vals))
		}
	}
	// By the table, too: a function without parameters and with a result.
	x := made(t, of(fn{body: "41,1 11,1 1a"}))
	x.Space().SetElems(1, []int{now})
	held(t, x, on(1000, 1, i32(1)), "asks 3", "call_indirect of an import on 1,000 Vals")
	m := of(fn{body: "41,0 1a"}, fn{kind: 1, body: "41,1"})
	held(t, made(t, m), on(1000, 0), "exhausted", "a const on 1,000 Vals")
}

// TestNothingHalf holds that what traps has changed nothing, also below what it took, and within blocks and calls.
func TestNothingHalf(t *testing.T) {
	for body, want := range map[string]string{
		"41,7 02,1 41,1 41,0 6d 0b 6a": "trap 2", "41,3 41,9 11,1 6a": "trap 5", "41,7 41,509 41,5 36,0,0": "trap 4", "41,1 02,1 00 0b 6a": "trap 1",
		"41,7 41,505 42,5 37,0,0": "trap 4", "41,7 41,-1 41,5 3a,0,0": "trap 4", "41,6 41,6 41,2 11,2 6a": "trap 6", "41,2 41,505 29,0,0 a7 6a": "trap 4",
		"03,1 41,-2147483648 41,-1 6d 0b": "trap 3", "41,4 41,600 2c,0,0 6a": "trap 4", "41,5 24,0 41,1 40 1a 41,9 41,7 3a,0,0 41,8 41,0 70": "trap 2",
		"41,5 10,0 41,0 6d": "asks 0 5, trap 2", "41,9 10,5 6a": "exhausted",
	} {
		if got := ran(t, of(fn{kind: 1, body: body}, fn{kind: 1, body: "41,3 10,5 6a"})); got != want {
			t.Errorf("P14.2: %s: got %s, want %s", body, got, want)
		}
	}
}

// TestBeyond holds the limits of states that have more Vals or Frames than they may: what counts is how many there are behind the instruction.
func TestBeyond(t *testing.T) {
	for _, c := range []struct {
		body string
		n    int
		top  []api.Val
		want string
	}{
		{"01", 1001, nil, "exhausted"}, {"02 0b", 1001, nil, "exhausted"}, {"1a", 1001, []api.Val{i32(1)}, "more"}, {"1a", 1002, []api.Val{i32(1)}, "exhausted"},
		{"3a,0,0", 1002, []api.Val{i32(1), i32(2)}, "more"}, {"3a,0,0", 1003, []api.Val{i32(1), i32(2)}, "exhausted"},
		{"24,0", 1001, []api.Val{i32(1)}, "more"}, {"24,0", 1002, []api.Val{i32(1)}, "exhausted"},
		{"40 1a", 1000, []api.Val{i32(1)}, "more"}, {"40 1a", 1001, []api.Val{i32(1)}, "exhausted"},
	} {
		body := c.body
		for k := len(c.top) - 1; k >= 0; k-- {
			body = "4" + strconv.Itoa(c.top[k].Kind) + ",0 " + body
		}
		held(t, made(t, withLocals(body)), on(c.n, len(c.top), c.top...), c.want, c.body+" on "+strconv.Itoa(c.n)+" Vals")
	}
	for n, want := range map[int]string{32: "more", 33: "exhausted"} {
		s := state.State{Asks: -1}
		for range n {
			s.Frames = append(s.Frames, state.Frame{Fn: own})
		}
		x := made(t, of(fn{body: "01"}))
		if got := told(step.Step(x, &s)); got != want {
			t.Errorf("P14.2: a nop on %d Frames: got %s, want %s", n, got, want)
		}
	}
}
