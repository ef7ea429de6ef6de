package run_test

import (
	"fmt"
	"math"
	"slices"
	"testing"

	"diapause/api"
	"diapause/inst"
	"diapause/meter"
	"diapause/run"
	"diapause/state"
)

func TestNew(t *testing.T) {
	c := made(t)
	if c.Out().Kind != 0 || c.Meter() != 0 || c.Calls() != 0 || c.Mark() != 0 || !state.Eq(c.State(), state.State{Asks: -1}) {
		t.Errorf("P15.1: New: something has begun: %s", told(c))
	}
	if x, err := inst.New(world()); err != api.OK || content(c.Inst()) != content(x) {
		t.Errorf("P15.1: New: the instance is not as inst.New makes it: %s", content(c.Inst()))
	}
	before := told(c)
	if c.Answer(1) != api.ErrNone || c.Go(5).Kind != 0 || told(c) != before {
		t.Errorf("P15.1: New: it goes: %s", told(c))
	}
	if c, err := run.New(api.Module{}); c == nil || err != api.OK || c.Begin("sum", nil) != api.ErrNone || c.Inst().Mem() != nil {
		t.Errorf("P15.1: New of the zero Module: %d", err)
	}
	m := world()
	m.Datas = []api.Data{{Off: 512, Bytes: []byte("a")}}
	if c, err := run.New(m); c != nil || err != api.ErrRange {
		t.Errorf("P15.1: New of Datas that do not fit: %d", err)
	}
	m.Codes[0].Body = nil
	if c, err := run.New(m); c != nil || err != api.ErrType {
		t.Errorf("P15.1: New of a module that is not valid: %d", err)
	}
}

func TestBegin(t *testing.T) {
	for _, c := range []struct {
		name string
		args []api.Val
		want api.Errno
	}{
		{"sum", []api.Val{i32(5)}, api.OK}, {"sum", []api.Val{i32(math.MinInt32)}, api.OK}, {"sum", []api.Val{i32(math.MaxInt32)}, api.OK},
		{"mixed", []api.Val{i64(math.MaxInt64), i32(1)}, api.OK}, {"mixed", []api.Val{i64(math.MinInt64), i32(-1)}, api.OK}, {"asks", nil, api.OK}, {"asks", []api.Val{}, api.OK},
		{"", nil, api.ErrNone}, {"su", []api.Val{i32(5)}, api.ErrNone}, {"sum ", []api.Val{i32(5)}, api.ErrNone}, {"Sum", []api.Val{i32(5)}, api.ErrNone}, {"nothing", []api.Val{{}}, api.ErrNone},
		{"ask", []api.Val{i32(5)}, api.ErrType}, {"ask", nil, api.ErrType}, {"tell", nil, api.ErrType}, {"sum", nil, api.ErrType}, {"sum", []api.Val{i32(5), i32(6)}, api.ErrType},
		{"sum", []api.Val{i64(5)}, api.ErrType}, {"sum", []api.Val{{}}, api.ErrType}, {"sum", []api.Val{{Kind: 3}}, api.ErrType}, {"sum", []api.Val{{Kind: -1}}, api.ErrType},
		{"sum", []api.Val{i32(math.MaxInt32 + 1)}, api.ErrType}, {"sum", []api.Val{i32(math.MinInt32 - 1)}, api.ErrType}, {"asks", []api.Val{i32(5)}, api.ErrType},
		{"mixed", []api.Val{i32(1), i64(1)}, api.ErrType}, {"mixed", []api.Val{i64(1)}, api.ErrType}, {"mixed", []api.Val{i64(1), i32(1 << 40)}, api.ErrType},
		{"mixed", []api.Val{i64(1), i32(1), i32(1)}, api.ErrType}, {"mixed", slices.Repeat([]api.Val{i64(1)}, 1000), api.ErrType},
	} {
		fresh, busy, asked := made(t), begun(t, "forever"), begun(t, "asks")
		asked.Go(2)
		before, beforeBusy, beforeAsked := told(fresh), told(busy), told(asked)
		if err := fresh.Begin(c.name, c.args); err != c.want || err != api.OK && told(fresh) != before {
			t.Errorf("P15.1: Begin of %s with %v: got %d, want %d", c.name, c.args, err, c.want)
		}
		want := c.want
		if want == api.OK {
			want = api.ErrBusy
			s := fresh.State()
			if fmt.Sprint(fresh.Out()) != "{1 0 0 []}" || len(s.Frames) != 1 || len(s.Vals) != 0 || s.Asks != -1 || !slices.Equal(s.Frames[0].Locals[:len(c.args)], c.args) {
				t.Errorf("P15.1: Begin of %s: %s", c.name, told(fresh))
			}
		}
		if err := busy.Begin(c.name, c.args); err != want || told(busy) != beforeBusy {
			t.Errorf("P15.1: Begin of %s while another one goes on: got %d, want %d", c.name, err, want)
		}
		if err := asked.Begin(c.name, c.args); err != want || told(asked) != beforeAsked {
			t.Errorf("P15.1: Begin of %s during a request: got %d, want %d", c.name, err, want)
		}
	}
}

// TestBeginAgain holds that what a call has left stays for the next one, however it ended.
func TestBeginAgain(t *testing.T) {
	c := made(t)
	for k, x := range []struct {
		name string
		args []api.Val
		kind int
	}{{"count", nil, api.Done}, {"zero", nil, api.Trapped}, {"grow", nil, api.Done}, {"deep", nil, api.Exhausted}, {"beyond", nil, api.Trapped}, {"full", nil, api.Exhausted},
		{"asks", nil, api.Done}, {"count", nil, api.Done}, {"away", []api.Val{i32(5)}, api.Trapped}, {"away", []api.Val{i32(2)}, api.Done}, {"count", nil, api.Done}} {
		cost, calls, mark, left := c.Meter(), c.Calls(), c.Mark(), content(c.Inst())
		if err := c.Begin(x.name, x.args); err != api.OK || fmt.Sprint(c.Out()) != "{1 0 0 []}" {
			t.Fatalf("P15.1: Begin of %s: %d", x.name, err)
		}
		if c.Meter() != cost || c.Calls() != calls || c.Mark() != mark || content(c.Inst()) != left {
			t.Errorf("P15.1: Begin of %s, the call %d: something has changed", x.name, k)
		}
		if s := c.State(); len(s.Vals) != 0 || len(s.Frames) != 1 || s.Asks != -1 {
			t.Errorf("P15.1: Begin of %s, the call %d: the state is not a new one: %v", x.name, k, s)
		}
		if out := goes(c, 3); out.Kind != x.kind {
			t.Errorf("P15.1: %s, the call %d: %v", x.name, k, out)
		}
		// The table changes from outside only.
		c.Inst().Space().SetElems(k%2*5, []int{k % 2 * sum})
	}
	if out := c.Out(); !slices.Equal(out.Vals, []api.Val{i32(11)}) || c.Calls() != 3 || c.Inst().Mem().Pages() != 3 {
		t.Errorf("P15.1: four calls of count, one of grow: %v, %d, %d", out, c.Calls(), c.Inst().Mem().Pages())
	}
	if n, _ := c.Inst().Mem().Load(0, 4); n != 4 || !slices.Equal(c.Inst().Space().Elems(), []int{0, ask, count, tell, sum, sum}) {
		t.Errorf("P15.1: four calls of count: the memory has %d, the table %v", n, c.Inst().Space().Elems())
	}
	if c.Begin("through", []api.Val{i32(5)}) != api.OK || fmt.Sprint(goes(c, 3)) != "{3 0 0 [{1 15}]}" {
		t.Errorf("P15.1: a call by the table that was changed: %v", c.Out())
	}
}

// TestPieces holds that functions come to the same end in pieces of any size, at the same cost.
func TestPieces(t *testing.T) {
	for _, c := range []struct {
		name string
		args []api.Val
		want string
		cost complex128
	}{
		{"sum", []api.Val{i32(5)}, "{3 0 0 [{1 15}]}", 4 + 5*9 + 3 + 4i}, {"sum", []api.Val{i32(1)}, "{3 0 0 [{1 1}]}", 16 + 4i},
		{"asks", nil, "{3 0 0 [{1 300}]}", 5}, {"mixed", []api.Val{i64(1 << 40), i32(-1)}, "{3 0 0 [{2 1099511627775}]}", 5},
		{"zero", nil, "{4 2 0 []}", 3}, {"beyond", nil, "{4 4 0 []}", 2 + 4i}, {"deep", nil, "{5 0 0 []}", 32}, {"count", nil, "{3 0 0 [{1 8}]}", 12 + 8i},
		{"bytes", nil, "{3 0 0 []}", 16 + 27i}, {"away", []api.Val{i32(0)}, "{4 5 0 []}", 2}, {"away", []api.Val{i32(1)}, "{4 6 0 []}", 2},
		{"away", []api.Val{i32(2)}, "{3 0 0 [{1 8}]}", 15 + 8i}, {"through", []api.Val{i32(1)}, "{3 0 0 [{1 100}]}", 4}, {"full", nil, "{5 0 0 []}", 1000/33*34 + 1000%33 + 1},
		{"grow", nil, "{3 0 0 [{1 2}]}", 3},
	} {
		for _, piece := range []int{1, 2, 3, 7, 1000, 1000000, 1000001, math.MaxInt} {
			m := begun(t, c.name, c.args...)
			if got := fmt.Sprint(goes(m, piece)); got != c.want || m.Meter() != c.cost || fmt.Sprint(m.Out()) != got {
				t.Errorf("P15.1: %s in pieces of %d: got %s, %v, want %s, %v", c.name, piece, got, m.Meter(), c.want, c.cost)
			}
			before := told(m)
			if out := m.Go(5); fmt.Sprint(out) != c.want || told(m) != before {
				t.Errorf("P15.1: %s goes on behind its end: %v", c.name, out)
			}
		}
	}
}

func TestGo(t *testing.T) {
	c := begun(t, "sum", i32(3))
	before := told(c)
	for _, n := range []int{0, -1, -1000000, math.MinInt} {
		if out := c.Go(n); fmt.Sprint(out) != "{1 0 0 []}" || c.Meter() != 0 || told(c) != before {
			t.Errorf("P15.1: Go(%d): %v, %v", n, out, c.Meter())
		}
	}
	for k := range 5 {
		if out := c.Go(1); fmt.Sprint(out) != "{1 0 0 []}" || meter.Steps(c.Meter()) != k+1 || c.State().Frames[0].Pc != k+1 {
			t.Errorf("P15.1: Go(1): %v, %v, %v", out, c.Meter(), c.State())
		}
	}
	if c.Go(7); meter.Steps(c.Meter()) != 12 {
		t.Errorf("P15.1: Go(7) behind five steps: %v", c.Meter())
	}
	c = begun(t, "asks")
	out := c.Go(100)
	before = told(c)
	if fmt.Sprint(out) != "{2 0 0 [{1 5}]}" || c.Meter() != 2 || fmt.Sprint(c.Go(7)) != fmt.Sprint(out) || told(c) != before {
		t.Errorf("P15.1: Go to a request: %v, %v", out, c.Meter())
	}
}

// TestMaxSteps holds the end of a function that has none, and what may still be done behind it.
func TestMaxSteps(t *testing.T) {
	c := small(t)
	if out := c.Go(api.MaxSteps - 1); out.Kind != api.More || c.Meter() != 999999 {
		t.Errorf("P15.1: a step before the last one: %v, %v", out, c.Meter())
	}
	if out := c.Go(1); out.Kind != api.More || c.Meter() != 1000000 {
		t.Errorf("P15.1: the last step: %v, %v", out, c.Meter())
	}
	was := c.State()
	if out := c.Go(0); out.Kind != api.More {
		t.Errorf("P15.1: Go(0) behind the last step: %v", out)
	}
	for range 2 {
		if out := c.Go(1); fmt.Sprint(out) != "{5 0 0 []}" || c.Meter() != 1000000 || !state.Eq(c.State(), was) {
			t.Errorf("P15.1: a step too many: %v, %v", out, c.Meter())
		}
	}
	if c.Begin("forever", nil) != api.OK || c.Go(0).Kind != api.More || c.Go(9).Kind != api.Exhausted || c.Meter() != 1000000 || c.State().Frames[0].Pc != 0 {
		t.Errorf("P15.1: another call behind the last step: %v, %v", c.Out(), c.Meter())
	}
	if c.Answer(1) != api.ErrNone {
		t.Errorf("P15.1: Answer behind the last step")
	}
}

// TestLastStep holds what the last step there may be does, and a call at once to the end.
func TestLastStep(t *testing.T) {
	for _, x := range []struct {
		name  string
		steps int // that it takes up to its end
		want  string
	}{{"zero", 3, "{4 2 0 []}"}, {"deep", 32, "{5 0 0 []}"}, {"count", 12, "{3 0 0 [{1 8}]}"}, {"asks", 2, "{2 0 0 [{1 5}]}"}} {
		for _, more := range []int{-1, 0, 1} {
			c := begun(t, x.name)
			c.Set(c.State(), c.Out(), meter.Of(api.MaxSteps-x.steps-more, 5), 0, 0)
			want, steps := x.want, api.MaxSteps-more
			if more < 0 {
				want, steps = "{5 0 0 []}", api.MaxSteps
			}
			if out := c.Go(100); fmt.Sprint(out) != want || meter.Steps(c.Meter()) != steps {
				t.Errorf("P15.1: %s with %d steps beyond what it takes: got %v, %v, want %s", x.name, more, out, c.Meter(), want)
			}
		}
	}
	c := small(t)
	if out := c.Go(math.MaxInt); fmt.Sprint(out) != "{5 0 0 []}" || c.Meter() != 1000000 {
		t.Errorf("P15.1: a loop at once: %v, %v", out, c.Meter())
	}
}

func TestAnswer(t *testing.T) {
	c := begun(t, "asks")
	before := told(c)
	if c.Answer(1) != api.ErrNone || told(c) != before {
		t.Errorf("P15.1: Answer, where nothing is requested: %s", told(c))
	}
	mark := complex128(0)
	for k, a := range []struct {
		fn    int
		n     int64
		given string
		after string // what the stack holds behind the answer
	}{{ask, 1<<32 + 6, "[{1 5}]", "[{1 6}]"}, {tell, -1, "[]", "[{1 6}]"}, {ask, math.MinInt64 + 1<<31, "[{1 6}]", "[{1 -2147483648}]"}} {
		out := c.Go(100)
		if out.Kind != api.Asks || out.Fn != a.fn || fmt.Sprint(out.Vals) != a.given || c.Calls() != k || c.State().Asks != a.fn {
			t.Errorf("P15.1: the request %d: %v, %d", k, out, c.Calls())
		}
		cost := c.Meter()
		mark = meter.Mark(mark, a.fn, a.n)
		if err := c.Answer(a.n); err != api.OK || fmt.Sprint(c.Out()) != "{1 0 0 []}" || c.Calls() != k+1 || c.Mark() != mark || c.Meter() != cost {
			t.Errorf("P15.1: Answer %d: %d, %s", k, err, told(c))
		}
		if s := c.State(); fmt.Sprint(s.Vals) != a.after || s.Asks != -1 {
			t.Errorf("P15.1: Answer %d: the state is %v", k, s)
		}
		before := told(c)
		if c.Answer(a.n) != api.ErrNone || told(c) != before {
			t.Errorf("P15.1: Answer %d, once more: %s", k, told(c))
		}
	}
	if out := c.Go(100); fmt.Sprint(out) != "{3 0 0 [{1 -2147483648}]}" || c.Answer(1) != api.ErrNone {
		t.Errorf("P15.1: behind the answers: %v", out)
	}
	for _, name := range []string{"zero", "deep"} {
		c := begun(t, name)
		goes(c, 100)
		before := told(c)
		if c.Answer(1) != api.ErrNone || told(c) != before {
			t.Errorf("P15.1: Answer behind the end of %s: %s", name, told(c))
		}
	}
}

// TestMark holds Calls and Mark behind many answers, over several functions.
func TestMark(t *testing.T) {
	c := made(t)
	mark := complex128(0)
	for k := range 40 {
		if c.Begin("through", []api.Val{i32(int64(1 + k%2*2))}) != api.OK {
			t.Fatalf("P15.1: Begin %d", k)
		}
		// By turns ask and, which is of another type, tell.
		if out := c.Go(100); out.Kind == api.Trapped {
			continue
		}
		n := int64(k) * -123456789012345
		mark = meter.Mark(mark, ask, n)
		if c.Answer(n) != api.OK || c.Mark() != mark || c.Calls() != k/2+1 {
			t.Errorf("P15.1: behind %d answers: %d, %v, want %v", k/2+1, c.Calls(), c.Mark(), mark)
		}
		c.Go(100)
	}
}

// hand gives a machine what is in the memory, the table and the globals of another one.
func hand(from, to *inst.Inst) {
	to.Mem().Grow(int64(from.Mem().Pages() - to.Mem().Pages()))
	for i := range from.Mem().Pages() {
		to.Mem().SetPage(i, from.Mem().Page(i))
	}
	to.Space().SetElems(0, from.Space().Elems())
	for i, v := range from.Space().Globals() {
		to.Space().SetGlobal(i, v)
	}
	to.Mem().Clean()
	from.Mem().Clean()
}

// TestSet holds that a machine goes on as the one did whose parts it was given, at each of its steps.
func TestSet(t *testing.T) {
	for name, steps := range map[string]int{"asks": 5, "count": 13, "bytes": 17, "zero": 4, "deep": 33, "away": 16, "grow": 4} {
		for n := range steps {
			var args []api.Val
			if name == "away" {
				args = []api.Val{i32(2)}
			}
			first := begun(t, name, args...)
			for range n {
				if first.Go(1).Kind == api.Asks && n%2 == 0 {
					first.Answer(int64(100 * (first.Calls() + 1)))
				}
			}
			second := begun(t, "forever")
			second.Go(5)
			hand(first.Inst(), second.Inst())
			second.Set(first.State(), first.Out(), first.Meter(), first.Calls(), first.Mark())
			if told(first) != told(second) {
				t.Fatalf("P15.1: Set behind %d steps of %s: got %s, want %s", n, name, told(second), told(first))
			}
			for range 40 {
				if first.Go(1); first.Out().Kind == api.Asks {
					first.Answer(int64(100 * (first.Calls() + 1)))
				}
				if second.Go(1); second.Out().Kind == api.Asks {
					second.Answer(int64(100 * (second.Calls() + 1)))
				}
				if told(first) != told(second) {
					t.Fatalf("P15.1: behind Set at %d steps of %s: got %s, want %s", n, name, told(second), told(first))
				}
			}
		}
	}
}

// TestOddSet holds P0.1 for what is not of a machine of the same module.
func TestOddSet(t *testing.T) {
	for _, s := range []state.State{{}, {Asks: -1}, {Frames: []state.Frame{{}}}, {Frames: []state.Frame{{Fn: grow + 1}}}, {Frames: []state.Frame{{Fn: 99}}}, {Frames: []state.Frame{{Fn: math.MinInt}}},
		{Frames: []state.Frame{{Fn: sum, Pc: -1}}}, {Frames: []state.Frame{{Fn: sum, Pc: math.MaxInt}}}, {Frames: []state.Frame{{Fn: sum, Pc: 10}}}, {Asks: 99}} {
		for kind := -1; kind < 7; kind++ {
			c := made(t)
			c.Set(s, api.Outcome{Kind: kind}, complex(math.Inf(1), math.NaN()), -5, complex(math.NaN(), 0))
			c.Go(10)
			c.Set(s, api.Outcome{Kind: kind}, 0, -5, 0)
			c.Go(10)
			c.Answer(5)
			if err := c.Begin("forever", nil); err != api.OK && err != api.ErrBusy {
				t.Errorf("P15.1: Begin behind %v: %d", s, err)
			}
		}
	}
	asked := begun(t, "asks")
	asked.Go(2)
	for kind := range 7 {
		if asked.Set(asked.State(), api.Outcome{Kind: kind}, 0, 0, 0); kind != api.Asks && asked.Answer(1) != api.ErrNone {
			t.Errorf("P15.1: Answer, where Out is of the Kind %d", kind)
		}
	}
	// Go ends even where the Meter leaves room for steps without end.
	c := small(t)
	c.Set(c.State(), c.Out(), meter.Of(-1<<50, 0), 0, 0)
	if out := c.Go(math.MaxInt); out.Kind != api.More && out.Kind != api.Exhausted {
		t.Errorf("P0.1: Go behind a Meter of -2^50: %v", out)
	}
}

func TestNil(t *testing.T) {
	var c *run.Machine
	c.Set(state.State{}, api.Outcome{Kind: api.More}, 1, 1, 1)
	if c.Begin("sum", nil) != api.ErrNone || c.Begin("", nil) != api.ErrNone || c.Answer(1) != api.ErrNone {
		t.Errorf("P15.1: Begin and Answer of a nil Machine")
	}
	if fmt.Sprint(c.Go(5), c.Out()) != "{0 0 0 []} {0 0 0 []}" || c.Meter() != 0 || c.Inst() != nil || !state.Eq(c.State(), state.State{}) || c.Calls() != 0 || c.Mark() != 0 {
		t.Errorf("P15.1: a nil Machine")
	}
	var empty run.Machine
	if empty.Begin("sum", nil) != api.ErrNone || empty.Answer(1) != api.ErrNone || empty.Go(5).Kind != 0 {
		t.Errorf("P0.1: a Machine that New has not made")
	}
	empty.Set(state.State{Frames: []state.Frame{{}}}, api.Outcome{Kind: api.More}, 0, 0, 0)
	empty.Go(5)
	empty.Set(state.State{}, api.Outcome{Kind: api.Asks}, 0, 0, 0)
	empty.Answer(5)
}
