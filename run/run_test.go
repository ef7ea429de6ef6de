package run_test

import (
	"fmt"
	"math"
	"slices"
	"testing"

	"diapause/api"
	"diapause/inst"
	"diapause/meter"
	"diapause/run"
	"diapause/state"
)

func i32(n int64) api.Val { return api.Val{Kind: api.I32, N: n} }

func i64(n int64) api.Val { return api.Val{Kind: api.I64, N: n} }

// The functions of world.
const (
	ask = iota
	tell
	sum     // of the numbers from the argument down to 1, behind a load
	asks    // ask of 5, then tell, then ask of what the first ask gave
	mixed   // of an I64 and an I32, added
	forever // a loop
	zero    // which divides by 0
	beyond  // which loads from where there is nothing
	deep    // which calls itself
	count   // which adds 1 to the global and to the first word of the memory, and gives the global
	bytes   // which loads and stores by each instruction
)

// world is a module of these functions, each under its name.
func world() api.Module {
	m := api.Module{
		Types: []api.Type{{}, {Results: []int{api.I32}}, {Params: []int{api.I32}, Results: []int{api.I32}},
			{Params: []int{api.I64, api.I32}, Results: []int{api.I64}}},
		Imports: []api.Import{{Mod: "w", Name: "ask", Type: 2}, {Mod: "w", Name: "tell", Type: 0}},
		Funcs:   []int{2, 1, 3, 0, 1, 1, 1, 1, 0},
		Mem:     api.Limits{Has: true, Min: 1, Max: -1},
		Globals: []api.Global{{Mut: true, Init: i32(7)}},
		Codes: []api.Code{
			{Locals: []int{api.I32}, Body: []api.Instr{{Op: 0x41}, {Op: 0x28}, {Op: 0x1a}, {Op: 0x03}, {Op: 0x20, A: 1}, {Op: 0x20}, {Op: 0x6a}, {Op: 0x21, A: 1},
				{Op: 0x20}, {Op: 0x41, A: 1}, {Op: 0x6b}, {Op: 0x22}, {Op: 0x0d}, {Op: 0x0b}, {Op: 0x20, A: 1}}},
			{Body: []api.Instr{{Op: 0x41, A: 5}, {Op: 0x10, A: ask}, {Op: 0x10, A: tell}, {Op: 0x10, A: ask}}},
			{Body: []api.Instr{{Op: 0x20}, {Op: 0x20, A: 1}, {Op: 0xac}, {Op: 0x7c}}},
			{Body: []api.Instr{{Op: 0x03}, {Op: 0x0c}, {Op: 0x0b}}},
			{Body: []api.Instr{{Op: 0x41, A: 1}, {Op: 0x41}, {Op: 0x6d}}},
			{Body: []api.Instr{{Op: 0x41, A: -1}, {Op: 0x28}}},
			{Body: []api.Instr{{Op: 0x10, A: deep}}},
			{Body: []api.Instr{{Op: 0x41}, {Op: 0x41}, {Op: 0x28}, {Op: 0x41, A: 1}, {Op: 0x6a}, {Op: 0x36}, {Op: 0x23}, {Op: 0x41, A: 1}, {Op: 0x6a},
				{Op: 0x24}, {Op: 0x23}}},
			{Body: []api.Instr{{Op: 0x41}, {Op: 0x41}, {Op: 0x28}, {Op: 0x36}, {Op: 0x41}, {Op: 0x41}, {Op: 0x29}, {Op: 0x37}, {Op: 0x41}, {Op: 0x41},
				{Op: 0x2c}, {Op: 0x3a}, {Op: 0x41}, {Op: 0x2d}, {Op: 0x1a}}},
		},
	}
	for k, name := range []string{"ask", "tell", "sum", "asks", "mixed", "forever", "zero", "beyond", "deep", "count", "bytes"} {
		m.Exports = append(m.Exports, api.Export{Name: name, Func: k})
	}
	return m
}

func made(t *testing.T) *run.Machine {
	t.Helper()
	c, err := run.New(world())
	if err != api.OK || c == nil {
		t.Fatalf("P15.1: New: %d", err)
	}
	return c
}

// begun is a machine on which a function has been begun.
func begun(t *testing.T, name string, args ...api.Val) *run.Machine {
	t.Helper()
	c := made(t)
	if err := c.Begin(name, args); err != api.OK {
		t.Fatalf("P15.1: Begin of %s: %d", name, err)
	}
	return c
}

// told tells all that a machine says of itself.
func told(c *run.Machine) string {
	x := c.Inst()
	return fmt.Sprint(c.Out(), c.Meter(), c.Calls(), c.Mark(), c.State(), x.Mem().Page(0), x.Space().Globals())
}

// goes goes on in pieces to the end, and answers what it is asked for by 100 times the number of the answer.
func goes(c *run.Machine, piece int) api.Outcome {
	for range 10000000 {
		switch out := c.Go(piece); out.Kind {
		case api.More:
		case api.Asks:
			c.Answer(int64(100 * (c.Calls() + 1)))
		default:
			return out
		}
	}
	return api.Outcome{}
}

func TestNew(t *testing.T) {
	c := made(t)
	if c.Out().Kind != 0 || c.Meter() != 0 || c.Calls() != 0 || c.Mark() != 0 || len(c.State().Frames) != 0 || c.Inst() == nil {
		t.Errorf("P15.1: New: something has begun: %s", told(c))
	}
	if c.Answer(1) != api.ErrNone || c.Go(5).Kind != 0 || c.Meter() != 0 {
		t.Errorf("P15.1: New: it goes: %s", told(c))
	}
	m := world()
	m.Datas = []api.Data{{Off: 256, Bytes: []byte("a")}}
	if c, err := run.New(m); c != nil || err != api.ErrRange {
		t.Errorf("P15.1: New of Datas that do not fit: %d", err)
	}
	m.Codes[0].Body = nil
	if c, err := run.New(m); c != nil || err != api.ErrType {
		t.Errorf("P15.1: New of a module that is not valid: %d", err)
	}
}

func TestBegin(t *testing.T) {
	for _, c := range []struct {
		name string
		args []api.Val
		want api.Errno
	}{
		{"sum", []api.Val{i32(5)}, api.OK}, {"sum", []api.Val{i32(math.MinInt32)}, api.OK}, {"mixed", []api.Val{i64(math.MaxInt64), i32(1)}, api.OK},
		{"asks", nil, api.OK}, {"", nil, api.ErrNone}, {"su", []api.Val{i32(5)}, api.ErrNone}, {"nothing", nil, api.ErrNone},
		{"ask", []api.Val{i32(5)}, api.ErrType}, {"tell", nil, api.ErrType}, {"sum", nil, api.ErrType}, {"sum", []api.Val{i32(5), i32(6)}, api.ErrType},
		{"sum", []api.Val{i64(5)}, api.ErrType}, {"sum", []api.Val{{}}, api.ErrType}, {"sum", []api.Val{{Kind: 3}}, api.ErrType},
		{"sum", []api.Val{i32(math.MaxInt32 + 1)}, api.ErrType}, {"sum", []api.Val{i32(math.MinInt32 - 1)}, api.ErrType}, {"asks", []api.Val{i32(5)}, api.ErrType},
		{"mixed", []api.Val{i32(1), i64(1)}, api.ErrType}, {"mixed", []api.Val{i64(1)}, api.ErrType}, {"mixed", []api.Val{i64(1), i32(1 << 40)}, api.ErrType},
	} {
		fresh, busy, asked := made(t), begun(t, "forever"), begun(t, "asks")
		asked.Go(2)
		before, beforeBusy, beforeAsked := told(fresh), told(busy), told(asked)
		if err := fresh.Begin(c.name, c.args); err != c.want || err != api.OK && told(fresh) != before {
			t.Errorf("P15.1: Begin of %s with %v: got %d, want %d", c.name, c.args, err, c.want)
		}
		want := c.want
		if want == api.OK {
			want = api.ErrBusy
			if s := fresh.State(); fresh.Out().Kind != api.More || len(s.Frames) != 1 || s.Asks != -1 || !slices.Equal(s.Frames[0].Locals[:len(c.args)], c.args) {
				t.Errorf("P15.1: Begin of %s: %s", c.name, told(fresh))
			}
		}
		if err := busy.Begin(c.name, c.args); err != want || told(busy) != beforeBusy {
			t.Errorf("P15.1: Begin of %s while another one goes on: got %d, want %d", c.name, err, want)
		}
		if err := asked.Begin(c.name, c.args); err != want || told(asked) != beforeAsked {
			t.Errorf("P15.1: Begin of %s during a request: got %d, want %d", c.name, err, want)
		}
	}
}

// TestBeginAgain holds that what a call has left stays for the next one, however it ended.
func TestBeginAgain(t *testing.T) {
	c := made(t)
	for k, name := range []string{"count", "zero", "deep", "beyond", "asks", "count", "count"} {
		cost, calls, mark := c.Meter(), c.Calls(), c.Mark()
		memory, globals := fmt.Sprint(c.Inst().Mem().Page(0)), fmt.Sprint(c.Inst().Space().Globals())
		if err := c.Begin(name, nil); err != api.OK || c.Out().Kind != api.More {
			t.Fatalf("P15.1: Begin of %s: %d", name, err)
		}
		if c.Meter() != cost || c.Calls() != calls || c.Mark() != mark || fmt.Sprint(c.Inst().Mem().Page(0)) != memory || fmt.Sprint(c.Inst().Space().Globals()) != globals {
			t.Errorf("P15.1: Begin of %s, the call %d: something has changed", name, k)
		}
		goes(c, 3)
	}
	if out := c.Out(); !slices.Equal(out.Vals, []api.Val{i32(10)}) || c.Calls() != 3 {
		t.Errorf("P15.1: three calls of count: %v, %d", out, c.Calls())
	}
	if n, _ := c.Inst().Mem().Load(0, 4); n != 3 {
		t.Errorf("P15.1: three calls of count: the memory has %d", n)
	}
}

// TestPieces holds that functions come to the same end in pieces of any size.
func TestPieces(t *testing.T) {
	for _, c := range []struct {
		name string
		args []api.Val
		want string
		cost complex128
	}{
		{"sum", []api.Val{i32(5)}, "{3 0 0 [{1 15}]}", 4 + 5*9 + 3 + 4i}, {"sum", []api.Val{i32(1)}, "{3 0 0 [{1 1}]}", 16 + 4i},
		{"asks", nil, "{3 0 0 [{1 300}]}", 5}, {"mixed", []api.Val{i64(1 << 40), i32(-1)}, "{3 0 0 [{2 1099511627775}]}", 5},
		{"zero", nil, "{4 2 0 []}", 3}, {"beyond", nil, "{4 4 0 []}", 2 + 4i}, {"deep", nil, "{5 0 0 []}", 32}, {"count", nil, "{3 0 0 [{1 8}]}", 12 + 8i},
		{"bytes", nil, "{3 0 0 []}", 16 + 27i},
	} {
		for _, piece := range []int{1, 2, 3, 7, 1000, math.MaxInt} {
			m := begun(t, c.name, c.args...)
			if got := fmt.Sprint(goes(m, piece)); got != c.want || m.Meter() != c.cost || fmt.Sprint(m.Out()) != got {
				t.Errorf("P15.1: %s in pieces of %d: got %s, %v, want %s, %v", c.name, piece, got, m.Meter(), c.want, c.cost)
			}
			before := told(m)
			if out := m.Go(5); fmt.Sprint(out) != c.want || told(m) != before {
				t.Errorf("P15.1: %s goes on behind its end: %v", c.name, out)
			}
		}
	}
}

func TestGo(t *testing.T) {
	c := begun(t, "sum", i32(3))
	before := told(c)
	for _, n := range []int{0, -1, math.MinInt} {
		if out := c.Go(n); out.Kind != api.More || c.Meter() != 0 || told(c) != before {
			t.Errorf("P15.1: Go(%d): %v, %v", n, out, c.Meter())
		}
	}
	for k := range 5 {
		if out := c.Go(1); out.Kind != api.More || meter.Steps(c.Meter()) != k+1 || c.State().Frames[0].Pc != k+1 {
			t.Errorf("P15.1: Go(1): %v, %v, %v", out, c.Meter(), c.State())
		}
	}
	c = begun(t, "asks")
	out := c.Go(100)
	before = told(c)
	if fmt.Sprint(out) != "{2 0 0 [{1 5}]}" || c.Meter() != 2 || fmt.Sprint(c.Go(7)) != fmt.Sprint(out) || told(c) != before {
		t.Errorf("P15.1: Go to a request: %v, %v", out, c.Meter())
	}
}

// TestMaxSteps holds the end of a function that has none, and what may still be done behind it.
func TestMaxSteps(t *testing.T) {
	c := begun(t, "forever")
	if out := c.Go(api.MaxSteps - 1); out.Kind != api.More || c.Meter() != 999999 {
		t.Errorf("P15.1: a step before the last one: %v, %v", out, c.Meter())
	}
	if out := c.Go(1); out.Kind != api.More || c.Meter() != 1000000 {
		t.Errorf("P15.1: the last step: %v, %v", out, c.Meter())
	}
	was := c.State()
	if out := c.Go(0); out.Kind != api.More {
		t.Errorf("P15.1: Go(0) behind the last step: %v", out)
	}
	for range 2 {
		if out := c.Go(1); fmt.Sprint(out) != "{5 0 0 []}" || c.Meter() != 1000000 || !state.Eq(c.State(), was) {
			t.Errorf("P15.1: a step too many: %v, %v", out, c.Meter())
		}
	}
	if c.Begin("count", nil) != api.OK || c.Go(0).Kind != api.More || c.Go(9).Kind != api.Exhausted || c.Meter() != 1000000 {
		t.Errorf("P15.1: another call behind the last step: %v, %v", c.Out(), c.Meter())
	}
	c.Set(state.State{Frames: []state.Frame{{Fn: zero}}, Asks: -1}, api.Outcome{Kind: api.More}, meter.Of(999997, 5), 0, 0)
	if out := c.Go(9); fmt.Sprint(out) != "{4 2 0 []}" || c.Meter() != 1000000+5i {
		t.Errorf("P15.1: a trap by the last step: %v, %v", out, c.Meter())
	}
}

func TestAnswer(t *testing.T) {
	c := begun(t, "asks")
	before := told(c)
	if c.Answer(1) != api.ErrNone || told(c) != before {
		t.Errorf("P15.1: Answer, where nothing is requested: %s", told(c))
	}
	mark := complex128(0)
	for k, a := range []struct {
		fn    int
		n     int64
		given string
	}{{ask, 1<<32 + 6, "[{1 5}]"}, {tell, -1, "[]"}, {ask, math.MinInt64, "[{1 6}]"}} {
		out := c.Go(100)
		if out.Kind != api.Asks || out.Fn != a.fn || fmt.Sprint(out.Vals) != a.given || c.Calls() != k {
			t.Errorf("P15.1: the request %d: %v, %d", k, out, c.Calls())
		}
		mark = meter.Mark(mark, a.fn, a.n)
		if err := c.Answer(a.n); err != api.OK || fmt.Sprint(c.Out()) != "{1 0 0 []}" || c.Calls() != k+1 || c.Mark() != mark {
			t.Errorf("P15.1: Answer %d: %d, %s", k, err, told(c))
		}
		if c.Answer(a.n) != api.ErrNone || c.Calls() != k+1 || c.Mark() != mark {
			t.Errorf("P15.1: Answer %d, once more: %s", k, told(c))
		}
	}
	if out := c.Go(100); fmt.Sprint(out) != "{3 0 0 [{1 0}]}" || c.Answer(1) != api.ErrNone {
		t.Errorf("P15.1: behind the answers: %v", out)
	}
}

// TestSet holds that a machine goes on as the one did whose state it was given, at each of its steps.
func TestSet(t *testing.T) {
	whole := begun(t, "asks")
	want := goes(whole, 100)
	for n := range 6 {
		first := begun(t, "asks")
		for range n {
			if first.Go(1).Kind == api.Asks {
				first.Answer(int64(100 * (first.Calls() + 1)))
			}
		}
		second := begun(t, "forever")
		s, out := first.State(), first.Out()
		second.Set(s, out, first.Meter(), first.Calls(), first.Mark())
		if told(first) != told(second) {
			t.Errorf("P15.1: Set behind %d steps: got %s, want %s", n, told(second), told(first))
		}
		// What was handed in is not kept.
		before := told(second)
		for k := range s.Vals {
			s.Vals[k] = i64(99)
		}
		for k := range s.Frames {
			s.Frames[k].Pc = 99
		}
		for k := range out.Vals {
			out.Vals[k] = i64(99)
		}
		if told(second) != before {
			t.Errorf("P0.3: Set keeps what it is given: %s", told(second))
		}
		if got := goes(second, 1); fmt.Sprint(got) != fmt.Sprint(want) || second.Meter() != whole.Meter() || second.Mark() != whole.Mark() || second.Calls() != 3 {
			t.Errorf("P15.1: behind Set at %d steps: got %v, want %v", n, got, want)
		}
	}
}

// TestOddSet holds P0.1 for what is not of a machine of the same module.
func TestOddSet(t *testing.T) {
	for _, s := range []state.State{{}, {Asks: -1}, {Frames: []state.Frame{{}}}, {Frames: []state.Frame{{Fn: bytes + 1}}}, {Frames: []state.Frame{{Fn: 99}}}, {Frames: []state.Frame{{Fn: math.MinInt}}},
		{Frames: []state.Frame{{Fn: sum, Pc: -1}}}, {Frames: []state.Frame{{Fn: sum, Pc: math.MaxInt}}}, {Frames: []state.Frame{{Fn: sum, Pc: 10}}}, {Asks: 99}} {
		for kind := -1; kind < 7; kind++ {
			c := made(t)
			c.Set(s, api.Outcome{Kind: kind}, complex(math.Inf(1), math.NaN()), -5, complex(math.NaN(), 0))
			c.Go(10)
			c.Set(s, api.Outcome{Kind: kind}, 0, -5, 0)
			c.Go(10)
			c.Answer(5)
			if err := c.Begin("forever", nil); err != api.OK && err != api.ErrBusy {
				t.Errorf("P15.1: Begin behind %v: %d", s, err)
			}
		}
	}
}

// TestCopies holds P0.3: what a machine tells of itself is a copy.
func TestCopies(t *testing.T) {
	c := begun(t, "asks")
	for c.Out().Kind == api.More || c.Out().Kind == api.Asks {
		before := told(c)
		goes, out, s := c.Go(0), c.Out(), c.State()
		for _, l := range [][]api.Val{goes.Vals, out.Vals, s.Vals} {
			for k := range l[:cap(l)] {
				l[:cap(l)][k] = i64(99)
			}
		}
		for k := range s.Frames {
			s.Frames[k] = state.Frame{Fn: 99}
		}
		if told(c) != before {
			t.Errorf("P0.3: a change of what was told shows: %s, was %s", told(c), before)
		}
		if c.Go(1).Kind == api.Asks {
			before := told(c)
			if l := c.Go(0).Vals; len(l) > 0 {
				l[0] = i64(99)
			}
			if told(c) != before {
				t.Errorf("P0.3: a change of what Go told shows: %s, was %s", told(c), before)
			}
			c.Answer(8)
		}
	}
	args := []api.Val{i64(5), i32(6), i32(9)}
	c = begun(t, "mixed", args[:2]...)
	args[0], args[1] = i64(50), i32(60)
	if out := goes(c, 1); fmt.Sprint(out.Vals) != "[{2 11}]" || args[2] != i32(9) {
		t.Errorf("P0.3: Begin keeps its arguments: %v", out)
	}
	if c.Inst() != c.Inst() {
		t.Errorf("P15.1: Inst is another one each time")
	}
}

func TestNil(t *testing.T) {
	var c *run.Machine
	c.Set(state.State{}, api.Outcome{Kind: api.More}, 1, 1, 1)
	if c.Begin("sum", nil) != api.ErrNone || c.Answer(1) != api.ErrNone || c.Go(5).Kind != 0 || c.Out().Kind != 0 || c.Meter() != 0 || c.Inst() != (*inst.Inst)(nil) ||
		!state.Eq(c.State(), state.State{}) || c.Calls() != 0 || c.Mark() != 0 {
		t.Errorf("P15.1: a nil Machine")
	}
	var empty run.Machine
	if empty.Begin("sum", nil) != api.ErrNone || empty.Answer(1) != api.ErrNone || empty.Go(5).Kind != 0 {
		t.Errorf("P0.1: a Machine that New has not made")
	}
}
