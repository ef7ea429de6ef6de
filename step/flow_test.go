package step_test

import (
	"fmt"
	"strings"
	"testing"

	"diapause/api"
	"diapause/state"
	"diapause/step"
)

// cases runs bodies of functions of the type kind, each with its own argument if the type has one.
func cases(t *testing.T, kind int, l []struct {
	body string
	arg  int64
	want string
}) {
	t.Helper()
	for _, c := range l {
		var args []api.Val
		if kind == 2 {
			args = []api.Val{i32(c.arg)}
		}
		if got := ran(t, of(fn{kind: kind, body: c.body, locals: []int{api.I32}}), args...); got != c.want {
			t.Errorf("P14.2: %s of %d: got %s, want %s", c.body, c.arg, got, c.want)
		}
	}
}

type flow = []struct {
	body string
	arg  int64
	want string
}

func TestIf(t *testing.T) {
	cases(t, 2, flow{
		{"20,0 04,1 41,10 05 41,20 0b", 1, "done 10"},
		{"20,0 04,1 41,10 05 41,20 0b", -1, "done 10"},
		{"20,0 04,1 41,10 05 41,20 0b", 1 << 30, "done 10"},
		{"20,0 04,1 41,10 05 41,20 0b", -1 << 31, "done 10"},
		{"20,0 04,1 41,10 05 41,20 0b", 0, "done 20"},
		{"41,1 20,0 04,1 41,10 05 41,20 0b 6a", 0, "done 21"},
		{"41,1 20,0 04,1 41,10 05 41,20 0b 6a", 3, "done 11"},
		{"20,0 04 41,5 21,0 0b 20,0", 0, "done 0"},
		{"20,0 04 41,5 21,0 0b 20,0", 2, "done 5"},
		{"20,0 04 05 41,5 21,0 0b 20,0", 0, "done 5"},
		{"20,0 04 05 41,5 21,0 0b 20,0", 2, "done 2"},
		{"20,0 04 0b 20,0", 2, "done 2"},
		{"20,0 04 0b 20,0", 0, "done 0"},
		{"20,0 04 05 0b 20,0", 0, "done 0"},
		{"20,0 04,1 20,0 41,1 46 04,1 41,1 05 41,2 0b 05 20,0 45 04,1 41,3 05 41,4 0b 0b", 1, "done 1"},
		{"20,0 04,1 20,0 41,1 46 04,1 41,1 05 41,2 0b 05 20,0 45 04,1 41,3 05 41,4 0b 0b", 2, "done 2"},
		{"20,0 04,1 20,0 41,1 46 04,1 41,1 05 41,2 0b 05 20,0 45 04,1 41,3 05 41,4 0b 0b", 0, "done 3"},
	})
}

// TestBr holds br to each block around, to a loop, and out of the body, with and without a value, with values left below.
func TestBr(t *testing.T) {
	cases(t, 1, flow{
		{"02,1 41,5 0c,0 0b", 0, "done 5"},
		{"02,1 41,4 41,5 0c,0 0b", 0, "done 5"},
		{"02,1 42,4 41,5 0c,0 0b", 0, "done 5"},
		{"41,1 02,1 41,4 41,3 41,5 0c,0 0b 6a", 0, "done 6"},
		{"41,9 02 41,1 41,2 0c,0 0b", 0, "done 9"},
		{"41,9 02 0c,0 00 0b", 0, "done 9"},
		// With three blocks around, and the body.
		{"02,1 02,1 02,1 41,5 0c,0 0b 41,10 6a 0b 41,100 6a 0b 41,1000 6a", 0, "done 1115"},
		{"02,1 02,1 02,1 41,5 0c,1 0b 41,10 6a 0b 41,100 6a 0b 41,1000 6a", 0, "done 1105"},
		{"02,1 02,1 02,1 41,5 0c,2 0b 41,10 6a 0b 41,100 6a 0b 41,1000 6a", 0, "done 1005"},
		{"02,1 02,1 02,1 41,5 0c,3 0b 41,10 6a 0b 41,100 6a 0b 41,1000 6a", 0, "done 5"},
		{"02,1 41,1 02,1 41,2 02,1 41,3 41,5 0c,0 0b 6a 0b 6a 0b", 0, "done 8"},
		{"02,1 41,1 02,1 41,2 02,1 41,3 41,5 0c,1 0b 6a 0b 6a 0b", 0, "done 6"},
		{"02,1 41,1 02,1 41,2 02,1 41,3 41,5 0c,2 0b 6a 0b 6a 0b", 0, "done 5"},
	})
	cases(t, 1, flow{
		// Without a value.
		{"02 02 02 0c,0 0b 23,0 41,10 6a 24,0 0b 23,0 41,100 6a 24,0 0b 23,0", 0, "done 117"},
		{"02 02 02 0c,1 0b 23,0 41,10 6a 24,0 0b 23,0 41,100 6a 24,0 0b 23,0", 0, "done 107"},
		{"02 02 02 0c,2 0b 23,0 41,10 6a 24,0 0b 23,0 41,100 6a 24,0 0b 23,0", 0, "done 7"},
		// Out of an if, on both sides.
		{"41,1 04,1 41,9 41,5 0c,0 05 41,6 0b", 0, "done 5"},
		{"41,0 04,1 41,9 41,5 0c,0 05 41,4 41,6 0c,0 0b", 0, "done 6"},
		{"41,1 04 41,9 41,5 0c,1 0b 41,6", 0, "done 5"},
		// To a loop: the body of each turn adds to a local.
		{"03,1 20,0 41,1 6a 22,0 41,5 48 04 41,3 0c,1 0b 20,0 0b", 0, "done 5"},
		{"02,1 03 20,0 41,1 6a 22,0 20,0 41,4 46 0d,1 1a 0c,0 0b 00 0b", 0, "done 4"},
		// Out of a loop by its end.
		{"03,1 41,5 0b", 0, "done 5"},
		{"41,8 03 0b", 0, "done 8"},
		// Out of the body, with and without blocks around.
		{"41,5 0c,0", 0, "done 5"},
		{"41,4 41,5 0c,0 00", 0, "done 5"},
		{"41,4 03 02 41,3 41,5 0c,2 0b 0b", 0, "done 5"},
	})
	cases(t, 0, flow{{"0c,0", 0, "done"}, {"41,3 41,4 0c,0", 0, "done"}, {"02 41,3 0c,1 0b 00", 0, "done"}, {"0f", 0, "done"}})
}

func TestBrIf(t *testing.T) {
	three := "02,1 02,1 02,1 41,3 41,5 20,0 0d,%d 6a 0b 41,10 6a 0b 41,100 6a 0b 41,1000 6a"
	for n, want := range []string{"done 1115", "done 1105", "done 1005", "done 5"} {
		for _, arg := range []int64{1, -1, 1 << 30, -1 << 31} {
			cases(t, 2, flow{{fmt.Sprintf(three, n), arg, want}})
		}
		cases(t, 2, flow{{fmt.Sprintf(three, n), 0, "done 1118"}})
	}
	cases(t, 2, flow{
		{"41,8 02 41,4 20,0 0d,0 1a 41,9 24,0 0b 23,0 6a", 1, "done 15"},
		{"41,8 02 41,4 20,0 0d,0 1a 41,9 24,0 0b 23,0 6a", 0, "done 17"},
		// A loop, which adds the numbers down to 1.
		{"41,0 21,1 03 20,1 20,0 6a 21,1 20,0 41,1 6b 22,0 0d,0 0b 20,1", 5, "done 15"},
		{"41,0 21,1 03 20,1 20,0 6a 21,1 20,0 41,1 6b 22,0 0d,0 0b 20,1", 1, "done 1"},
		{"41,8 20,0 0d,0 1a 41,9", 1, "done 8"},
		{"41,8 20,0 0d,0 1a 41,9", 0, "done 9"},
	})
}

// TestBrTable holds br_table by each element, by A, and by numbers that are negative as signed ones.
func TestBrTable(t *testing.T) {
	// A block each behind which something is added: L leads to the blocks 2, 0, 1 and 3 (the body), A to 1.
	four := "02,1 02,1 02,1 41,7 41,5 20,0 0e,2,0,1,3,1 0b 41,10 6a 0b 41,100 6a 0b 41,1000 6a"
	for arg, want := range map[int64]string{0: "done 1005", 1: "done 1115", 2: "done 1105", 3: "done 5", 4: "done 1105", 5: "done 1105", 1 << 30: "done 1105",
		-1: "done 1105", -4: "done 1105", -1 << 31: "done 1105"} {
		cases(t, 2, flow{{four, arg, want}})
	}
	for arg, want := range map[int64]string{0: "done 10", 1: "done 20", 2: "done 30", 3: "done 30", -1: "done 30"} {
		cases(t, 2, flow{{"02 02 02 41,4 20,0 0e,0,1,2 0b 41,10 0f 0b 41,20 0f 0b 41,30", arg, want}})
	}
	cases(t, 2, flow{
		{"41,8 20,0 0e,0,0", 5, "done 8"}, {"41,8 20,0 0e,0", 0, "done 8"}, {"41,8 20,0 0e,0", 5, "done 8"},
		{"02,1 41,8 20,0 0e,0 0b 41,1 6a", 0, "done 9"}, {"02,1 41,8 20,0 0e,0,1,0 0b 41,1 6a", 1, "done 8"},
		{"02,1 41,8 20,0 0e,0,1,0 0b 41,1 6a", 2, "done 9"},
		// To a loop, until the argument is beyond the list.
		{"02 03 20,1 41,1 6a 21,1 20,0 20,0 41,1 6a 21,0 0e,0,0,0,1 0b 00 0b 20,1", 0, "done 4"},
	})
	// Of fifty elements only the last one leads out of both blocks.
	fifty := "02 02 20,0 0e," + strings.Repeat("0,", 49) + "1,0 0b 41,1 0f 0b 41,2"
	cases(t, 2, flow{{fifty, 0, "done 1"}, {fifty, 48, "done 1"}, {fifty, 49, "done 2"}, {fifty, 50, "done 1"}, {fifty, -1, "done 1"}})
}

func TestReturn(t *testing.T) {
	cases(t, 1, flow{
		{"41,5 0f", 0, "done 5"}, {"41,4 41,5 0f", 0, "done 5"}, {"42,3 41,4 41,5 0f 00", 0, "done 5"},
		{"41,1 02 41,2 02 41,3 41,5 0f 0b 1a 0b", 0, "done 5"}, {"03,1 41,2 41,5 0f 0b", 0, "done 5"},
	})
	// Of a call only what it has pushed itself is removed.
	inner := func(kind int, body string) api.Module {
		return of(fn{kind: 1, body: "41,100 41,3 10,5 6a"}, fn{kind: kind, body: body})
	}
	for body, want := range map[string]string{
		"20,0": "done 103", "20,0 0f": "done 103", "41,7 42,8 20,0 0f": "done 103", "41,7 20,0 0c,0": "done 103", "41,7 02 41,8 20,0 0c,1 0b": "done 103",
		"02,1 41,8 20,0 0c,0 0b": "done 103", "41,9 20,0 20,0 0d,0 6a": "done 103",
	} {
		if got := ran(t, inner(2, body)); got != want {
			t.Errorf("P14.2: a call of %s: got %s, want %s", body, got, want)
		}
	}
	// Of a function without a result nothing is left.
	for _, body := range []string{"41,1 41,2 0f", "41,1 0c,0", "", "02 41,3 0f 0b"} {
		if got := ran(t, of(fn{kind: 1, body: "41,100 10,5"}, fn{body: body})); got != "done 100" {
			t.Errorf("P14.2: a call of %s: got %s", body, got)
		}
	}
}

func TestCalls(t *testing.T) {
	two := api.Type{Params: []int{api.I32, api.I32}, Results: []int{api.I32}}
	for _, c := range []struct{ body, want string }{
		{"41,5 10,0", "asks 0 5, done 100"},
		{"41,9 41,5 10,0 6b", "asks 0 5, done -91"},
		{"10,1 41,6", "asks 1, done 6"},
		{"10,1 41,6 10,0 10,1 41,1 6a", "asks 1, asks 0 6, asks 1, done 201"},
		{"42,-7 41,8 10,2 a7", "asks 2 -7L 8, done 100"},
		{"10,3 10,3 6b", "asks 3, asks 3, done -100"},
		{"41,50 41,8 10,5", "done 42"},
		{"41,1 41,50 41,8 10,5 6a", "done 43"},
	} {
		m := of(fn{kind: 1, body: c.body}, fn{kind: 7, body: "20,0 20,1 6b"})
		m.Types = append(m.Types, two)
		if got := ran(t, m); got != c.want {
			t.Errorf("P14.2: %s: got %s, want %s", c.body, got, c.want)
		}
	}
	if got := ran(t, of(fn{kind: 4, body: "42,50 41,8 10,5"}, fn{kind: 3, body: "20,0 20,1 ac 7d"})); got != "done 42L" {
		t.Errorf("P14.2: a call with two kinds of arguments: got %s", got)
	}
	// A factorial, each of whose calls has locals of its own.
	factorial := fn{kind: 2, body: "20,0 45 04,1 41,1 05 20,0 20,0 41,1 6b 10,4 6c 0b"}
	if got := ran(t, of(factorial), i32(10)); got != "done 3628800" {
		t.Errorf("P14.2: a factorial: got %s", got)
	}
	// The deepest that there may be: 32 Frames.
	if got := ran(t, of(fn{kind: 2, body: "20,0 04,1 20,0 41,1 6b 10,4 41,1 6a 05 41,0 0b"}), i32(31)); got != "done 31" {
		t.Errorf("P14.2: 32 Frames: got %s", got)
	}
	if got := ran(t, of(fn{kind: 2, body: "20,0 04,1 20,0 41,1 6b 10,4 41,1 6a 05 41,0 0b"}), i32(32)); got != "exhausted" {
		t.Errorf("P14.2: 33 Frames: got %s", got)
	}
}

// TestRequest holds the state in which an import is requested.
func TestRequest(t *testing.T) {
	x := made(t, of(fn{kind: 4, body: "41,1 42,-5 41,6 10,2 01 0f"}))
	s := begun(t, x)
	for range 3 {
		step.Step(x, s)
	}
	before := content(x)
	out := step.Step(x, s)
	want := state.State{Vals: []api.Val{i32(1)}, Frames: []state.Frame{{Fn: own, Pc: 4}}, Asks: wide}
	if told(out) != "asks 2 -5L 6" || !state.Eq(*s, want) || content(x) != before {
		t.Errorf("P14.2: a request: got %s, %v", told(out), *s)
	}
	want.Vals, want.Asks = []api.Val{i32(1), i64(1 << 40)}, -1
	if !step.Answer(x, s, 1<<40) || !state.Eq(*s, want) {
		t.Errorf("P14.1: Answer: got %v", *s)
	}
	want.Frames[0].Pc = 5
	if got := told(step.Step(x, s)); got != "more" || !state.Eq(*s, want) {
		t.Errorf("P14.2: a step behind an answer: got %s, %v", got, *s)
	}
	if got := told(step.Step(x, s)); got != "done 1099511627776L" || standing(s) != "- 1099511627776L" {
		t.Errorf("P14.2: the end behind an answer: got %s, %v", got, *s)
	}
}

// TestCallIndirect holds the elements 1 to 3, which are ask, own and tell, the empty 0 and 4, and those that are not there.
func TestCallIndirect(t *testing.T) {
	for _, c := range []struct {
		kind       int
		body, want string
	}{
		{1, "41,6 41,1 11,2", "asks 0 6, done 100"},
		{1, "41,3 11,0 41,8", "asks 1, done 8"},
		{1, "41,0 11,1", "trap 5"}, {1, "41,4 11,1", "trap 5"}, {1, "41,5 11,1", "trap 5"}, {1, "41,-1 11,1", "trap 5"},
		{1, "41,2147483647 11,1", "trap 5"}, {1, "41,-2147483648 11,1", "trap 5"}, {1, "41,-2147483646 11,1", "trap 5"},
		{1, "41,1 11,1", "trap 6"}, {1, "41,3 11,1", "trap 6"}, {1, "41,6 41,2 11,2", "trap 6"},
		{4, "41,2 11,1 00", "trap 6"}, {4, "42,1 41,2 41,1 11,3", "trap 6"},
		// own by itself: the type 5 is as the type 1, and the type 4 differs in the result alone.
		{1, "23,0 04,1 41,0 24,0 41,2 11,1 41,1 6a 05 41,30 0b", "done 31"},
		{1, "23,0 04,1 41,0 24,0 41,2 11,5 41,1 6a 05 41,30 0b", "done 31"},
		{1, "41,2 11,4 a7", "trap 6"}, {1, "41,8 41,1 11,6 41,1", "trap 6"}, {1, "41,2 11,0 41,1", "trap 6"},
		{5, "41,2 11,1", "exhausted"},
	} {
		if got := ran(t, of(fn{kind: c.kind, body: c.body})); got != c.want {
			t.Errorf("P14.2: %s: got %s, want %s", c.body, got, c.want)
		}
	}
}

// TestTableOfOthers holds functions that something else has written to the table, also such as do not exist.
func TestTableOfOthers(t *testing.T) {
	for f, want := range map[int]string{own: "more", own + 1: "trap 6", ask: "trap 6", own + 2: "trap 6", 1000: "trap 6", -2: "trap 6", -1: "trap 5", tell: "asks 1"} {
		x := made(t, of(fn{body: "41,4 11,0"}, fn{kind: 1, body: "41,1"}))
		x.Space().SetElems(4, []int{f})
		s := begun(t, x)
		step.Step(x, s)
		was := state.Copy(*s)
		got := told(step.Step(x, s))
		if got != want || strings.HasPrefix(want, "trap") && !state.Eq(*s, was) {
			t.Errorf("P14.2: the function %d in the table: got %s, want %s", f, got, want)
		}
	}
}
