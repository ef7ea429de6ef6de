package snap_test

import (
	"fmt"
	"math"
	"slices"
	"strings"
	"testing"

	"diapause/api"
	"diapause/run"
	"diapause/snap"
	"diapause/state"
)

// change makes of what a machine is what none can be.
type change struct {
	name string
	do   func(s *state.State, out *api.Outcome)
}

// spoiled refuses each of the changes, each on its own.
func spoiled(t *testing.T, m api.Module, c *run.Machine, about string, changes ...change) {
	t.Helper()
	hold(t, m, c, about)
	for _, x := range changes {
		d := made(t, m)
		s, out := c.State(), c.Out()
		x.do(&s, &out)
		d.Set(s, out, c.Meter(), c.Calls(), c.Mark())
		if told(d) == told(c) {
			t.Errorf("the test itself: %s, %s: nothing is changed", about, x.name)
		}
		refuse(t, m, snap.Save(d), about+", "+x.name)
	}
}

// lastOf is the Frame that is running.
func lastOf(s *state.State) *state.Frame { return &s.Frames[len(s.Frames)-1] }

func kindIs(kind int) change {
	return change{fmt.Sprint("of the Kind ", kind), func(s *state.State, out *api.Outcome) { out.Kind = kind }}
}

func trapIs(n int) change {
	return change{fmt.Sprint("with the Trap ", n), func(s *state.State, out *api.Outcome) { out.Trap = n }}
}

func fnIs(n int) change {
	return change{fmt.Sprint("with the Fn ", n), func(s *state.State, out *api.Outcome) { out.Fn = n }}
}

func valsAre(l ...api.Val) change {
	return change{fmt.Sprint("with the Vals ", l), func(s *state.State, out *api.Outcome) { out.Vals = l }}
}

func outIs(o api.Outcome) change {
	return change{fmt.Sprint("with the Out ", o), func(s *state.State, out *api.Outcome) { *out = o }}
}

func asksIs(n int) change {
	return change{fmt.Sprint("with the Asks ", n), func(s *state.State, out *api.Outcome) { s.Asks = n }}
}

func more(l ...api.Val) change {
	return change{fmt.Sprint("with more Vals ", l), func(s *state.State, out *api.Outcome) { s.Vals = append(s.Vals, l...) }}
}

var noFrames = change{"without Frames", func(s *state.State, out *api.Outcome) { s.Frames = nil }}

var aFrame = change{"with a Frame", func(s *state.State, out *api.Outcome) {
	s.Frames = append(s.Frames, state.Frame{Fn: own + 1, Base: len(s.Vals)})
}}

// TestOutcomes holds that the Outcome and the state must go together.
func TestOutcomes(t *testing.T) {
	m := world()
	spoiled(t, m, made(t, m), "nothing begun", kindIs(1), kindIs(2), kindIs(4), kindIs(5), kindIs(6), trapIs(1), fnIs(1), valsAre(i32(1)), asksIs(0), asksIs(3), more(i32(0)), aFrame)
	spoiled(t, m, begun(t, m, 2, "nothing"), "running", kindIs(0), kindIs(2), kindIs(3), kindIs(4), kindIs(6), trapIs(1), fnIs(1), valsAre(i64(8)), asksIs(0), asksIs(1), asksIs(3), noFrames)
	spoiled(t, m, begun(t, m, 99, "deep"), "exhausted", kindIs(0), kindIs(2), kindIs(3), kindIs(4), trapIs(1), fnIs(1), valsAre(i64(8)), asksIs(0), asksIs(1), noFrames)
	spoiled(t, m, begun(t, m, 99, "zero", i32(0)), "trapped", kindIs(0), kindIs(1), kindIs(2), kindIs(3), kindIs(5), trapIs(0), trapIs(7), fnIs(1), valsAre(i32(0)), asksIs(0), asksIs(1), noFrames)
	spoiled(t, m, begun(t, m, 4, "asks", i32(3)), "asking", kindIs(0), kindIs(1), kindIs(3), kindIs(4), kindIs(5), trapIs(1), fnIs(0), fnIs(1), fnIs(own), valsAre(), valsAre(i64(9)), valsAre(i64(9), i64(-1)),
		valsAre(i64(9), i32(-1), i32(0)), valsAre(i64(9), i32(math.MaxInt32+1)), valsAre(i64(9), i32(math.MinInt32-1)), valsAre(i32(-1), i64(9)), asksIs(-1), asksIs(0), asksIs(1), asksIs(own), noFrames,
		more(i64(0)), outIs(api.Outcome{}), outIs(api.Outcome{Kind: api.More}), outIs(api.Outcome{Kind: api.Done}), outIs(api.Outcome{Kind: api.Trapped, Trap: 1}), outIs(api.Outcome{Kind: api.Exhausted}))
	spoiled(t, m, begun(t, m, 99, "asks", i32(3)), "with a result", kindIs(0), kindIs(1), kindIs(2), kindIs(4), kindIs(5), trapIs(1), fnIs(1), valsAre(), valsAre(i32(1)), valsAre(i64(0)), valsAre(i32(0), i32(0)),
		asksIs(0), aFrame, more(i32(0)))
	spoiled(t, m, begun(t, m, 99, "nothing"), "without a result", kindIs(1), kindIs(2), kindIs(4), kindIs(5), trapIs(1), fnIs(1), valsAre(i32(1)), asksIs(0), aFrame, more(i32(0)))
}

// TestResults holds that a result is one of a function that can be begun.
func TestResults(t *testing.T) {
	for _, x := range []struct {
		m    api.Module
		vals []api.Val
		ok   bool
	}{
		{bare(fn{"f", 0, "", nil}), nil, true}, {bare(fn{"f", 0, "", nil}), []api.Val{i32(1)}, false}, {bare(fn{"f", 1, "41", nil}), []api.Val{i32(1)}, true}, {bare(fn{"f", 1, "41", nil}), nil, false},
		{bare(fn{"f", 1, "41", nil}), []api.Val{i64(1)}, false}, {bare(fn{"f", 4, "42", nil}), []api.Val{i64(1)}, true}, {bare(fn{"f", 1, "41", nil}), []api.Val{i32(1), i32(1)}, false},
		{bare(fn{"", 0, "", nil}), nil, false}, {bare(fn{"f", 1, "41", nil}, fn{"", 4, "42", nil}), []api.Val{i64(1)}, false},
		{bare(fn{"f", 1, "41", nil}, fn{"g", 4, "42", nil}), []api.Val{i64(1)}, true}, {bare(fn{"f", 1, "41", nil}, fn{"g", 4, "42", nil}), []api.Val{i32(1)}, true},
	} {
		// The result of an import is none of the machine's.
		x.m.Exports = append(x.m.Exports, api.Export{Name: "wide", Func: wide})
		c := made(t, x.m)
		c.Set(state.State{Vals: x.vals, Asks: -1}, api.Outcome{Kind: api.Done, Vals: x.vals}, 1, 0, 0)
		about := fmt.Sprint("the result ", x.vals, " of a module with the Funcs ", x.m.Funcs)
		if x.ok {
			hold(t, x.m, c, about)
		} else {
			refuse(t, x.m, snap.Save(c), about)
		}
	}
}

// TestFrames holds that each Frame must be one of its function, and the next one what it calls.
func TestFrames(t *testing.T) {
	m := of(
		fn{"f", 2, "41,7 02,1 42,1 20 10,4 a7 0b 6a", []int{api.I64}},
		fn{"", 3, "20,1 45 1a 03 02,2 20 20,1 20,1 11,2 ac 7c 0b 1a 0b 42,5", []int{api.I32}},
		fn{"g", 2, "20 10,0", nil},
	)
	m.Elems = []api.Elem{{Funcs: []int{ask, own, own + 1, own + 2}}}
	at := func(steps int) *run.Machine { return begun(t, m, steps, "f", i32(3)) }
	frame := func(name string, k int, do func(f *state.Frame)) change {
		return change{name, func(s *state.State, out *api.Outcome) { do(&s.Frames[k]) }}
	}
	var each []change
	for k := range 3 {
		about := fmt.Sprint("the Frame ", k, " ")
		each = append(each,
			frame(about+"of an import", k, func(f *state.Frame) { f.Fn = tell }),
			frame(about+"of no function", k, func(f *state.Frame) { f.Fn = own + 3 }),
			frame(about+"of no function by far", k, func(f *state.Frame) { f.Fn = 10000 }),
			frame(about+"behind the end", k, func(f *state.Frame) { f.Pc = 16 }),
			frame(about+"far behind the end", k, func(f *state.Frame) { f.Pc = 10000 }),
			frame(about+"at the beginning", k, func(f *state.Frame) { f.Pc = 0 }),
			frame(about+"one earlier", k, func(f *state.Frame) { f.Pc-- }),
			frame(about+"with a local less", k, func(f *state.Frame) { f.Locals = f.Locals[1:] }),
			frame(about+"with a local more", k, func(f *state.Frame) { f.Locals = append(f.Locals, i32(0)) }),
			frame(about+"with another local", k, func(f *state.Frame) { f.Locals[0].Kind = 3 - f.Locals[0].Kind }),
			frame(about+"with a greater Base", k, func(f *state.Frame) { f.Base++ }),
			frame(about+"with another Base", k, func(f *state.Frame) { f.Base += 7 }),
			frame(about+"with a Label more", k, func(f *state.Frame) { f.Labels = append(f.Labels, state.Label{At: 1, Height: 1}) }),
			change{about + "twice", func(s *state.State, out *api.Outcome) { s.Frames = slices.Insert(s.Frames, k, s.Frames[k]) }},
		)
	}
	for k := range 2 {
		about := fmt.Sprint("the Frame ", k, " ")
		each = append(each,
			change{about + "missing", func(s *state.State, out *api.Outcome) { s.Frames = slices.Delete(s.Frames, k, k+1) }},
			frame(about+"without a Label", k, func(f *state.Frame) { f.Labels = f.Labels[1:] }),
			frame(about+"with a Label elsewhere", k, func(f *state.Frame) { f.Labels[0].At++ }),
			frame(about+"with a Label higher", k, func(f *state.Frame) { f.Labels[0].Height++ }),
			frame(about+"with the last Label elsewhere", k, func(f *state.Frame) { f.Labels[len(f.Labels)-1].At-- }),
			frame(about+"with the last Label lower", k, func(f *state.Frame) { f.Labels[len(f.Labels)-1].Height = 0 }),
		)
	}
	for k := range 2 {
		each = append(each, change{fmt.Sprint("the value ", k, " of another kind"), func(s *state.State, out *api.Outcome) { s.Vals[k] = api.Val{Kind: 3 - s.Vals[k].Kind} }},
			change{fmt.Sprint("the value ", k, " missing"), func(s *state.State, out *api.Outcome) { s.Vals = slices.Delete(s.Vals, k, k+1) }})
	}
	each = append(each, more(i32(0)), more(i64(0)), more(slices.Repeat([]api.Val{i64(0)}, 900)...), change{"without values", func(s *state.State, out *api.Outcome) { s.Vals = nil }})
	c := at(15)
	if len(c.State().Frames) != 3 || c.Out().Kind != api.More || lastOf(new(c.State())).Pc != 1 {
		t.Fatalf("the test itself: behind 15 steps: %s", told(c))
	}
	spoiled(t, m, c, "called twice", each...)
	c = at(16)
	if c.Out().Kind != api.Asks {
		t.Fatalf("the test itself: behind 16 steps: %s", told(c))
	}
	spoiled(t, m, c, "called twice, and asking", each...)
}

// TestBegun holds that the first function must be one that can be begun.
func TestBegun(t *testing.T) {
	m := bare(fn{"f", 0, "10,4", nil}, fn{"", 0, "01 01", nil})
	c := made(t, m)
	c.Set(state.State{Frames: []state.Frame{{Fn: own + 1, Pc: 1}}, Asks: -1}, api.Outcome{Kind: api.More}, 1, 0, 0)
	refuse(t, m, snap.Save(c), "a function that is not exported")
	hold(t, m, begun(t, m, 2, "f"), "a function that is not exported, but called")
	c.Set(state.State{Frames: []state.Frame{{Fn: own, Pc: 1, Base: 1}, {Fn: own + 1, Pc: 1, Base: 1}}, Vals: []api.Val{i32(0)}, Asks: -1}, api.Outcome{Kind: api.More}, 1, 0, 0)
	refuse(t, m, snap.Save(c), "a value ahead of all")
}

// TestCallees holds that a function is one that the one before it can have called.
func TestCallees(t *testing.T) {
	m := bare(fn{"f", 0, "10,4 41 11,0", nil}, fn{"", 0, "01", nil}, fn{"", 1, "41", nil}, fn{"", 2, "20", nil}, fn{"", 0, "01 01", nil}, fn{"", 5, "01", nil})
	m.Types = append(m.Types, api.Type{Params: []int{api.I32}})
	m.Table = api.Limits{Has: true, Min: 1, Max: -1}
	m.Imports = append(m.Imports[:2], api.Import{Mod: "w", Name: "tell too"})
	calls := func(pc, callee int, locals ...api.Val) []state.Frame {
		return []state.Frame{{Fn: own, Pc: pc}, {Fn: callee, Locals: locals}}
	}
	for _, x := range []struct {
		frames []state.Frame
		asks   int
		ok     bool
	}{
		{calls(1, own+1), -1, true}, {calls(1, own+4), -1, false}, {calls(1, own), -1, false}, {calls(1, own+2), -1, false}, {calls(0, own+1), -1, false}, {calls(2, own+1), -1, false},
		{calls(3, own+1), -1, true}, {calls(3, own+4), -1, true}, {calls(3, own), -1, true}, {calls(3, own+2), -1, false}, {calls(3, own+3, i32(0)), -1, false}, {calls(3, own+5, i32(0)), -1, false},
		{calls(3, own)[:1], tell, true}, {calls(3, own)[:1], 2, true}, {calls(3, own)[:1], ask, false}, {calls(3, own)[:1], own + 1, false}, {calls(3, own)[:1], 99, false},
		{calls(1, own)[:1], tell, false}, {calls(0, own)[:1], tell, false}, {calls(2, own)[:1], tell, false}, {calls(3, own+1), tell, false},
	} {
		c := made(t, m)
		out := api.Outcome{Kind: api.More}
		if x.asks >= 0 {
			out = api.Outcome{Kind: api.Asks, Fn: x.asks}
		}
		c.Set(state.State{Frames: x.frames, Asks: x.asks}, out, 1, 0, 0)
		about := fmt.Sprint("the Frames ", x.frames, ", and the request ", x.asks)
		if x.ok {
			hold(t, m, c, about)
		} else {
			refuse(t, m, snap.Save(c), about)
		}
	}
}

// TestDead holds that a function is never where it can't get, and that its Labels are those of the blocks around.
func TestDead(t *testing.T) {
	for body, live := range map[string]map[int]int{
		// The indices that can be got to, each with the number of values there.
		"00 01 01":                        {0: 0},
		"0f 01":                           {0: 0},
		"02 0c 01 0b 01":                  {0: 0, 1: 0, 4: 0, 5: 0},
		"41 04 00 01 05 01 0b 01":         {0: 0, 1: 1, 2: 0, 5: 0, 6: 0, 7: 0, 8: 0},
		"41 04 01 05 00 01 0b 01":         {0: 0, 1: 1, 2: 0, 3: 0, 4: 0, 7: 0, 8: 0},
		"03 0c 1a 0b 01":                  {0: 0, 1: 0, 4: 0, 5: 0},
		"41 0e,0,0 1a 6a 1a 01":           {0: 0, 1: 1},
		"02 00 04 41 1a 05 41 1a 0b 0b":   {0: 0, 1: 0, 10: 0},
		"41 0d 41 41 02 0c,1 1a 0b 6a 1a": {0: 0, 1: 1, 2: 0, 3: 1, 4: 2, 5: 2, 8: 2, 9: 1, 10: 0},
	} {
		m := bare(fn{"f", 0, body, nil})
		text := m.Codes[0].Body
		for pc := range len(text) + 2 {
			holdPlace(t, m, text, pc, live)
		}
	}
}

// holdPlace holds which values and Labels there may be at pc.
func holdPlace(t *testing.T, m api.Module, body []api.Instr, pc int, live map[int]int) {
	t.Helper()
	for count := range 4 {
		for _, labels := range [][]state.Label{nil, {{At: 0}}, {{At: 1}}, {{At: 2}}, {{At: 4, Height: 2}}, {{At: 0}, {At: 2}}, {{At: 0, Height: 1}}, {{At: 1, Height: 1}}} {
			c := made(t, m)
			c.Set(state.State{Vals: slices.Repeat([]api.Val{i32(1)}, count), Frames: []state.Frame{{Fn: own, Pc: pc, Labels: labels}}, Asks: -1}, api.Outcome{Kind: api.More}, 1, 0, 0)
			_, err := snap.Load(m, snap.Save(c), zeros)
			want := api.ErrCorrupt
			if n, ok := live[pc]; ok && n == count && slices.Equal(labels, labelsAt(body, pc, live)) {
				want = api.OK
			}
			if err != want {
				t.Errorf("P16.1: %v, at %d with %d values and %v: got %d, want %d", body, pc, count, labels, err, want)
			}
		}
	}
}

// labelsAt are those of the blocks that have no end ahead of pc.
func labelsAt(body []api.Instr, pc int, live map[int]int) []state.Label {
	var l []state.Label
	for at, i := range body[:pc] {
		switch i.Op {
		case 0x02, 0x03:
			l = append(l, state.Label{At: at, Height: live[at]})
		case 0x04:
			l = append(l, state.Label{At: at, Height: live[at] - 1})
		case 0x0b:
			l = l[:len(l)-1]
		}
	}
	return l
}

// TestFullStack holds that there must be room for the answer.
func TestFullStack(t *testing.T) {
	consts := func(n int) string { return strings.Repeat("41,1 ", n) }
	drops := func(n int) string { return strings.Repeat("1a ", n) }
	m := bare(fn{"f", 0, consts(8) + "10,1 " + consts(24) + "10,3 " + drops(32), nil})
	c := begun(t, m, 0, "f")
	for c.Out().Kind == api.More || len(c.State().Vals) < 1000 {
		move(c)
	}
	if hold(t, m, c, "asking for nothing with 1000 values"); c.Out().Kind != api.Asks {
		t.Fatalf("the test itself: %s", told(c))
	}
	// As before, but for the import's result.
	gives := bare(fn{"f", 0, consts(8) + "10,1 1a " + consts(24) + "10,3 " + drops(32), nil})
	gives.Imports[tell].Type = 1
	s := c.State()
	for k := range s.Frames[:31] {
		s.Frames[k].Pc++
	}
	d := made(t, gives)
	d.Set(s, c.Out(), c.Meter(), 0, 0)
	refuse(t, gives, snap.Save(d), "asking for a value with 1000 values")
	fewer := bare(fn{"f", 0, consts(8) + "10,1 1a " + consts(23) + "10,3 " + drops(31), nil})
	fewer.Imports[tell].Type = 1
	for k := range s.Frames[:31] {
		s.Frames[k].Pc--
	}
	for k := range s.Frames {
		s.Frames[k].Base -= k
	}
	s.Vals = s.Vals[31:]
	d = made(t, fewer)
	d.Set(s, c.Out(), c.Meter(), 0, 0)
	hold(t, fewer, d, "asking for a value with fewer values")
}

// TestOtherParts holds that an encoding is none of a machine with another memory, table, or globals.
func TestOtherParts(t *testing.T) {
	first := of(fn{"f", 2, "41,7 10,0 20 6a", nil})
	grown := made(t, first)
	grown.Inst().Mem().Grow(2)
	for _, c := range []*run.Machine{made(t, first), begun(t, first, 1, "f", i32(3)), begun(t, first, 2, "f", i32(3)), begun(t, first, 99, "f", i32(3)), grown} {
		for name, do := range map[string]func(m *api.Module){
			"a global less":         func(m *api.Module) { m.Globals = m.Globals[:2] },
			"no globals":            func(m *api.Module) { m.Globals = nil },
			"a global more":         func(m *api.Module) { m.Globals = append(m.Globals, api.Global{Init: i32(0)}) },
			"another kind":          func(m *api.Module) { m.Globals[0].Init = i64(7) },
			"kinds in another turn": func(m *api.Module) { m.Globals[0], m.Globals[1] = m.Globals[1], m.Globals[0] },
			"a greater table":       func(m *api.Module) { m.Table.Min++ },
			"a smaller table":       func(m *api.Module) { m.Table.Min-- },
			"no table":              func(m *api.Module) { m.Table, m.Elems = api.Limits{}, nil },
			"a greater memory":      func(m *api.Module) { m.Mem = api.Limits{Has: true, Min: 4, Max: 4} },
			"no memory":             func(m *api.Module) { m.Mem, m.Datas = api.Limits{}, nil },
			"too small a Max": func(m *api.Module) {
				m.Mem.Max = 2
				if c != grown {
					m.Mem = api.Limits{Has: true, Min: 2, Max: 2}
				}
			},
		} {
			m := first
			m.Globals = slices.Clone(first.Globals)
			do(&m)
			refuse(t, m, snap.Save(c), name)
		}
		// What a machine does not show may be otherwise.
		m := first
		m.Datas, m.Elems, m.Mem.Max, m.Table.Max = nil, nil, 5, 9
		hold(t, m, c, "another beginning")
	}
}

// TestOtherFunctions holds that what a machine does is held against the functions of the module.
func TestOtherFunctions(t *testing.T) {
	const f, g = "41,7 02,1 42,1 20 10,4 a7 0b 6a", "20 20,1 ac 7c 01"
	locals := []int{api.I64}
	first := bare(fn{"f", 2, f, locals}, fn{"g", 3, g, nil})
	c := begun(t, first, 8, "f", i32(3))
	if s := c.State(); len(s.Frames) != 2 || len(s.Vals) != 3 {
		t.Fatalf("the test itself: %s", told(c))
	}
	for name, m := range map[string]api.Module{
		"without functions":      bare(),
		"another body":           bare(fn{"f", 2, "42,1 1a " + f, locals}, fn{"g", 3, g, nil}),
		"another local":          bare(fn{"f", 2, f, []int{api.I32}}, fn{"g", 3, g, nil}),
		"without the local":      bare(fn{"f", 2, f, nil}, fn{"g", 3, g, nil}),
		"a local more":           bare(fn{"f", 2, f, locals}, fn{"g", 3, g, []int{api.I32}}),
		"a block less":           bare(fn{"f", 2, "41,7 01 42,1 20 10,4 a7 01 6a", locals}, fn{"g", 3, g, nil}),
		"a block earlier":        bare(fn{"f", 2, "02,1 41,7 42,1 20 10,4 a7 6a 0b", locals}, fn{"g", 3, g, nil}),
		"another kind":           bare(fn{"f", 2, "42,7 02,1 42,1 20 10,4 a7 0b ac 7c a7", locals}, fn{"g", 3, g, nil}),
		"another kind on top":    bare(fn{"f", 2, f, locals}, fn{"g", 3, "20 20,1 45 ac 7c", nil}),
		"another callee":         bare(fn{"f", 2, "41,7 02,1 42,1 20 10,5 a7 0b 6a", locals}, fn{"g", 3, g, nil}, fn{"h", 3, g, nil}),
		"no call":                bare(fn{"f", 2, "41,7 02,1 42,1 20 ad 7c a7 0b 6a", locals}, fn{"g", 3, g, nil}),
		"not exported":           bare(fn{"", 2, f, locals}, fn{"g", 3, g, nil}),
		"shorter":                bare(fn{"f", 2, f, locals}, fn{"g", 3, "20", nil}),
		"unreachable":            bare(fn{"f", 2, f, locals}, fn{"g", 3, "20 00 ac 7c 01", nil}),
		"the functions turned":   bare(fn{"g", 3, g, nil}, fn{"f", 2, "41,7 02,1 42,1 20 10,3 a7 0b 6a", locals}),
		"another type of f":      bare(fn{"f", 3, "41,7 02,1 42,1 20,1 10,4 a7 0b 6a ac", locals}, fn{"g", 3, g, nil}),
		"the zero Module":        {},
		"an import in its place": {Types: first.Types, Imports: slices.Repeat(first.Imports, 2)},
	} {
		made(t, m)
		refuse(t, m, snap.Save(c), name)
	}
	// Here nothing is otherwise that the machine shows.
	for name, m := range map[string]api.Module{
		"itself":             first,
		"a function more":    bare(fn{"f", 2, f, locals}, fn{"g", 3, g, nil}, fn{"h", 3, g, nil}),
		"a loop for a block": bare(fn{"f", 2, "41,7 03,1 42,1 20 10,4 a7 0b 6a", locals}, fn{"g", 3, g, nil}),
		"another name":       bare(fn{"first", 2, f, locals}, fn{"", 3, g, nil}),
		"more at the end":    bare(fn{"f", 2, f + " 41,1 6a", locals}, fn{"g", 3, g + " 01", nil}),
	} {
		hold(t, m, c, name)
	}
}
