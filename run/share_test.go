package run_test

import (
	"fmt"
	"slices"
	"sync"
	"testing"

	"diapause/api"
	"diapause/run"
	"diapause/state"
)

// fill overwrites l and what is spare behind it.
func fill[E any](l []E, x E) {
	for k := range l[:cap(l)] {
		l[:cap(l)][k] = x
	}
}

// spoil overwrites all lists of a state, with what is spare behind them.
func spoil(s state.State) {
	for _, f := range s.Frames[:cap(s.Frames)] {
		fill(f.Locals, i64(77))
		fill(f.Labels, state.Label{At: 77, Height: 77})
	}
	fill(s.Vals, i64(77))
	fill(s.Frames, state.Frame{Fn: 77})
}

// roomy copies l, and lays spare ones behind it.
func roomy[E any](l []E, spare E) []E {
	return append(slices.Clone(l), slices.Repeat([]E{spare}, 5)...)[:len(l)]
}

// withRoom copies s, so that something is spare behind each of its lists.
func withRoom(s state.State) state.State {
	s.Vals, s.Frames = roomy(s.Vals, i64(55)), roomy(s.Frames, state.Frame{Fn: 55})
	for k, f := range s.Frames {
		s.Frames[k].Locals, s.Frames[k].Labels = roomy(f.Locals, i64(66)), roomy(f.Labels, state.Label{At: 66, Height: 66})
	}
	return s
}

// whole tells a state with all that is spare behind its lists.
func whole(s state.State) string {
	text := fmt.Sprint(s, s.Vals[:cap(s.Vals)], s.Frames[:cap(s.Frames)])
	for _, f := range s.Frames {
		text += fmt.Sprint(f.Locals[:cap(f.Locals)], f.Labels[:cap(f.Labels)])
	}
	return text
}

// steps lets look at a machine at each of its steps, in functions of all kinds.
func steps(t *testing.T, look func(c *run.Machine)) {
	for k, name := range names {
		var args []api.Val
		switch k {
		case ask, tell:
			continue
		case sum, away:
			args = []api.Val{i32(2)}
		case mixed:
			args = []api.Val{i64(1), i32(2)}
		case through:
			args = []api.Val{i32(1)}
		}
		c := begun(t, name, args...)
		for range 80 {
			look(c)
			if c.Go(1).Kind == api.Asks {
				look(c)
				c.Answer(9)
			}
		}
	}
}

// TestResults holds P0.3: what a machine tells of itself is its own each time.
func TestResults(t *testing.T) {
	steps(t, func(c *run.Machine) {
		before := told(c)
		outs := []api.Outcome{c.Go(0), c.Out(), c.Out()}
		states := []state.State{c.State(), c.State()}
		for k, o := range outs {
			fill(o.Vals, i64(77))
			if rest := outs[k+1:]; len(rest) > 0 && fmt.Sprint(rest[0]) != fmt.Sprint(c.Out()) {
				t.Fatalf("P0.3: two Outcomes share memory: %s", before)
			}
		}
		spoil(states[0])
		if !state.Eq(states[1], c.State()) {
			t.Fatalf("P0.3: two states share memory: %s", before)
		}
		spoil(states[1])
		if told(c) != before {
			t.Fatalf("P0.3: a change of what was told shows: %s, was %s", told(c), before)
		}
	})
	for _, name := range []string{"asks", "count"} {
		c := begun(t, name)
		out := c.Go(100)
		before := told(c)
		fill(out.Vals, i64(77))
		if told(c) != before {
			t.Errorf("P0.3: a change of what Go told shows: %s, was %s", told(c), before)
		}
	}
}

// TestArguments holds P0.3: what is handed in is neither changed nor kept.
func TestArguments(t *testing.T) {
	steps(t, func(c *run.Machine) {
		s, out := withRoom(c.State()), c.Out()
		out.Vals = roomy(out.Vals, i64(55))
		before, given := told(c), fmt.Sprint(whole(s), out.Vals[:cap(out.Vals)])
		d := made(t)
		hand(c.Inst(), d.Inst())
		before = told(c)
		d.Set(s, out, c.Meter(), c.Calls(), c.Mark())
		if told(d) != before {
			t.Fatalf("P15.1: Set: got %s, want %s", told(d), before)
		}
		e := made(t)
		e.Set(s, out, 0, 0, 0)
		for range 20 {
			if e.Go(1).Kind == api.Asks {
				e.Answer(8)
			}
		}
		if got := fmt.Sprint(whole(s), out.Vals[:cap(out.Vals)]); got != given {
			t.Fatalf("P0.3: Set, or what comes behind it, changes its arguments: %s, were %s", got, given)
		}
		spoil(s)
		fill(out.Vals, i64(77))
		if told(d) != before {
			t.Fatalf("P0.3: Set keeps its arguments: %s", told(d))
		}
	})
	args := roomy([]api.Val{i64(5), i32(6)}, i32(9))
	c := begun(t, "mixed", args...)
	if fmt.Sprint(args[:cap(args)][:7]) != "[{2 5} {1 6} {1 9} {1 9} {1 9} {1 9} {1 9}]" {
		t.Errorf("P0.3: Begin changes its arguments: %v", args[:cap(args)])
	}
	fill(args, i64(77))
	if out := goes(c, 1); fmt.Sprint(out.Vals) != "[{2 11}]" {
		t.Errorf("P0.3: Begin keeps its arguments: %v", out)
	}
}

// TestModule holds that New keeps nothing of the module.
func TestModule(t *testing.T) {
	m := world()
	c, err := run.New(m)
	if err != api.OK {
		t.Fatalf("P15.1: New: %d", err)
	}
	for k := range m.Codes {
		fill(m.Codes[k].Body, api.Instr{})
		fill(m.Codes[k].Locals, api.I64)
	}
	for k := range m.Types {
		fill(m.Types[k].Params, api.I64)
		fill(m.Types[k].Results, api.I64)
	}
	fill(m.Types, api.Type{})
	fill(m.Exports, api.Export{})
	fill(m.Funcs, 0)
	if c.Begin("bytes", nil) != api.OK || fmt.Sprint(goes(c, 1)) != "{3 0 0 []}" || c.Meter() != 16+27i {
		t.Errorf("P0.3: New keeps the module: %v, %v", c.Out(), c.Meter())
	}
}

// TestInst holds that Inst is the machine's own one.
func TestInst(t *testing.T) {
	c := begun(t, "count")
	c.Inst().Mem().Store(0, 4, 41)
	c.Inst().Space().SetGlobal(0, i32(99))
	if out := c.Go(100); fmt.Sprint(out) != "{3 0 0 [{1 100}]}" {
		t.Errorf("P15.1: a global that was set by Inst: %v", out)
	}
	if n, _ := c.Inst().Mem().Load(0, 4); n != 42 {
		t.Errorf("P15.1: a memory that was written by Inst: %d", n)
	}
	if c.Inst() != c.Inst() {
		t.Errorf("P15.1: Inst is another one each time")
	}
	if d := made(t); d.Inst() == c.Inst() || content(d.Inst()) == content(c.Inst()) {
		t.Errorf("P15.1: two machines have one instance")
	}
}

// TestMachinesApart holds that machines do not see each other, at the same time neither.
func TestMachinesApart(t *testing.T) {
	m := world()
	want := ""
	var group sync.WaitGroup
	texts := make([]string, 8)
	for k := range texts {
		group.Go(func() {
			c, _ := run.New(m)
			for _, name := range []string{"asks", "count", "zero", "full", "count"} {
				c.Begin(name, nil)
				goes(c, k+1)
			}
			texts[k] = told(c)
		})
	}
	group.Wait()
	for _, text := range texts {
		if want == "" {
			want = text
		}
		if text != want {
			t.Errorf("P0.5: machines at the same time: %s, and %s", text, want)
		}
	}
}
