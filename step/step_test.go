package step_test

import (
	"fmt"
	"math"
	"slices"
	"strings"
	"testing"

	"diapause/api"
	"diapause/state"
	"diapause/step"
)

// TestExamples holds the chapter's examples.
func TestExamples(t *testing.T) {
	for body, want := range map[string]string{
		"41,5 41,6 41,1 1b":                  "done 5",
		"02,1 41,4 41,5 0c,0 0b 41,1 6a":     "done 6",
		"41,9 41,511 3a,0,0 41,9 2c,0,0":     "done -1",
		"41,1 41,0 6d":                       "trap 2",
		"10,4":                               "exhausted",
		"41,1 04,1 10,4 05 41,0 0b 41,9 6a ": "exhausted",
	} {
		if got := ran(t, of(fn{kind: 1, body: body})); got != want {
			t.Errorf("P14.2: the example %s: got %s, want %s", body, got, want)
		}
	}
}

// frames are n Frames of the function own, each of which stands at the end.
func frames(n int) []state.Frame {
	var l []state.Frame
	for k := range n {
		l = append(l, state.Frame{Fn: own, Pc: k, Base: k, Locals: vals(k), Labels: []state.Label{{At: k, Height: k}}})
	}
	return l
}

// TestCall holds Call with and without arguments and locals, on all numbers of Frames up to one too many.
func TestCall(t *testing.T) {
	for _, c := range []struct {
		f    fn
		args []api.Val
		want []api.Val
	}{
		{fn{kind: 0}, nil, nil},
		{fn{kind: 0, locals: []int{api.I64, api.I32, api.I64}}, nil, []api.Val{i64(0), i32(0), i64(0)}},
		{fn{kind: 2, body: "20,0"}, []api.Val{i32(-5)}, []api.Val{i32(-5)}},
		{fn{kind: 3, body: "20,0"}, []api.Val{i64(math.MinInt64), i32(math.MaxInt32)}, []api.Val{i64(math.MinInt64), i32(math.MaxInt32)}},
		{fn{kind: 3, body: "20,0", locals: []int{api.I32, api.I64}}, []api.Val{i64(3), i32(4)}, []api.Val{i64(3), i32(4), i32(0), i64(0)}},
		{fn{kind: 2, body: "20,0", locals: slices.Repeat([]int{api.I64}, 31)}, []api.Val{i32(1)}, append([]api.Val{i32(1)}, slices.Repeat([]api.Val{i64(0)}, 31)...)},
	} {
		x := made(t, of(fn{kind: 0}, c.f))
		for n := range 34 {
			s := state.State{Vals: vals(3 * n), Frames: frames(n), Asks: -1}
			want, out := state.Copy(s), "exhausted"
			if n < 32 {
				want.Frames = append(want.Frames, state.Frame{Fn: own + 1, Locals: c.want, Base: 3 * n})
				out = "more"
			}
			before := content(x)
			if got := told(step.Call(x, &s, own+1, c.args)); got != out || !state.Eq(s, want) || content(x) != before {
				t.Errorf("P14.1: Call at %d Frames: %s, %v, want %s, %v", n, got, s, out, want)
			}
		}
	}
}

// TestCallAtLimits holds Call and call at 31 and at 32 Frames.
func TestCallAtLimits(t *testing.T) {
	x := made(t, of(fn{kind: 1, body: "41,1 41,5 10,5 6a"}, fn{kind: 2, body: "20,0"}))
	for n, want := range map[int]string{30: "more", 31: "more", 32: "exhausted"} {
		s := state.State{Vals: vals(5), Frames: slices.Repeat([]state.Frame{{Fn: own, Pc: 2}}, n), Asks: -1}
		was := state.Copy(s)
		if got := told(step.Step(x, &s)); got != want {
			t.Errorf("P14.2: call at %d Frames: got %s, want %s", n, got, want)
		}
		if want == "more" {
			was.Frames[n-1].Pc = 3
			was.Frames = append(was.Frames, state.Frame{Fn: own + 1, Locals: []api.Val{i32(5)}, Base: 4})
			was.Vals = was.Vals[:4]
		}
		if !state.Eq(s, was) {
			t.Errorf("P14.2: call at %d Frames: got %v, want %v", n, s, was)
		}
	}
}

// TestAnswer holds Answer with and without a result, of both kinds, with numbers that fit and that do not.
func TestAnswer(t *testing.T) {
	x := made(t, of(fn{kind: 0, body: "41,3 1a"}))
	for _, n := range []int64{0, 7, -1, math.MaxInt32, math.MaxInt32 + 1, math.MinInt32, math.MinInt32 - 1, 1<<32 + 7, 1 << 32, math.MaxInt64, math.MinInt64} {
		for asks, want := range map[int][]api.Val{
			ask: {i32(int64(int32(n)))}, tell: nil, wide: {i64(n)}, now: {i32(int64(int32(n)))},
		} {
			s := state.State{Vals: vals(5), Frames: frames(3), Asks: asks}
			wanted := state.Copy(s)
			wanted.Vals, wanted.Asks = append(wanted.Vals, want...), -1
			before := content(x)
			if !step.Answer(x, &s, n) || !state.Eq(s, wanted) || content(x) != before {
				t.Errorf("P14.1: Answer of %d by %d: got %v, want %v", asks, n, s, wanted)
			}
			// It has been answered.
			if step.Answer(x, &s, n) || !state.Eq(s, wanted) {
				t.Errorf("P14.1: Answer of %d by %d, once more: got %v, want %v", asks, n, s, wanted)
			}
		}
	}
}

// TestNoRequest holds that Answer changes nothing where nothing is requested.
func TestNoRequest(t *testing.T) {
	x := made(t, of(fn{kind: 0}))
	for _, asks := range []int{-1, own, own + 1, -2, 1000, math.MaxInt, math.MinInt} {
		s := state.State{Vals: vals(5), Frames: frames(3), Asks: asks}
		was := state.Copy(s)
		if step.Answer(x, &s, 9) || !state.Eq(s, was) {
			t.Errorf("P14.1: Answer where Asks is %d: %v", asks, s)
		}
	}
}

// TestPlain holds the instructions that neither branch nor call nor access the memory.
func TestPlain(t *testing.T) {
	for _, c := range []struct {
		kind       int
		body, want string
	}{
		{0, "", "done"}, {0, "01", "done"}, {1, "01 41,5 01", "done 5"},
		{1, "41,2147483647", "done 2147483647"}, {1, "41,-2147483648", "done -2147483648"},
		{4, "42,9223372036854775807", "done 9223372036854775807L"}, {4, "42,-9223372036854775808", "done -9223372036854775808L"},
		{1, "41,5 41,6 1a", "done 5"}, {1, "41,5 42,6 1a", "done 5"},
		// select takes the lower one where the number on top is not 0.
		{1, "41,5 41,6 41,1 1b", "done 5"}, {1, "41,5 41,6 41,0 1b", "done 6"}, {1, "41,5 41,6 41,-1 1b", "done 5"},
		{4, "42,5 42,6 41,1 1b", "done 5L"}, {4, "42,5 42,6 41,0 1b", "done 6L"}, {4, "42,5 42,6 41,-2147483648 1b", "done 5L"},
		{1, "41,1 41,5 41,6 41,0 1b 6a", "done 7"},
		{2, "20,0", "done 77"}, {2, "41,5 21,0 20,0", "done 5"}, {2, "41,5 22,0", "done 5"}, {2, "41,5 22,0 20,0 6a", "done 10"},
		{2, "20,1 1a 20,0", "done 77"}, {2, "42,8 21,1 20,0 20,1 a7 6a", "done 85"},
		{1, "23,0", "done 7"}, {4, "23,1", "done -9L"}, {4, "23,2", "done -9223372036854775808L"}, {1, "23,3", "done -1"},
		{1, "41,6 24,0 23,0", "done 6"}, {1, "23,0 41,6 24,0 23,0 6b", "done 1"}, {4, "42,6 24,2 23,2", "done 6L"},
		{1, "00", "trap 1"}, {0, "41,5 00", "trap 1"},
		{1, "41,7 45", "done 0"}, {1, "42,0 50", "done 1"}, {1, "41,1 67", "done 31"}, {4, "42,1 79", "done 63L"},
		{1, "42,-1 a7", "done -1"}, {4, "41,-1 ac", "done -1L"}, {4, "41,-1 ad", "done 4294967295L"},
		{1, "41,9 41,4 6b", "done 5"}, {4, "42,9 42,4 7d", "done 5L"}, {1, "41,9 41,4 4a", "done 1"}, {1, "42,4 42,9 55", "done 0"},
		{1, "41,7 41,0 6d", "trap 2"}, {1, "41,7 41,0 6e", "trap 2"}, {1, "41,7 41,0 6f", "trap 2"}, {1, "41,7 41,0 70", "trap 2"},
		{4, "42,7 42,0 7f", "trap 2"}, {4, "42,7 42,0 80", "trap 2"}, {4, "42,7 42,0 81", "trap 2"}, {4, "42,7 42,0 82", "trap 2"},
		{1, "41,-2147483648 41,-1 6d", "trap 3"}, {1, "41,-2147483648 41,-1 6f", "done 0"},
		{4, "42,-9223372036854775808 42,-1 7f", "trap 3"}, {4, "42,-9223372036854775808 42,-1 81", "done 0L"},
		{1, "41,0 41,0 6d", "trap 2"}, {1, "41,1 41,7 41,0 6d 6a", "trap 2"},
	} {
		f := fn{kind: c.kind, body: c.body}
		var args []api.Val
		if c.kind == 2 {
			f.locals, args = []int{api.I64}, []api.Val{i32(77)}
		}
		if got := ran(t, of(f), args...); got != c.want {
			t.Errorf("P14.2: %s: got %s, want %s", c.body, got, c.want)
		}
	}
}

// TestGlobalStays holds that a global that was set has its value in the next call, too.
func TestGlobalStays(t *testing.T) {
	x := made(t, of(fn{kind: 1, body: "23,0 41,1 6a 24,0 23,0"}))
	for want := int64(8); want < 12; want++ {
		s := begun(t, x)
		out := step.Step(x, s)
		for out.Kind == api.More {
			out = step.Step(x, s)
		}
		if v, _ := x.Space().Global(0); told(out) != "done"+list([]api.Val{i32(want)}) || v != i32(want) {
			t.Errorf("P14.2: global.set: got %s, %v, want %d", told(out), v, want)
		}
	}
}

// TestTraces holds the Pc, the Vals and the Labels behind each step.
func TestTraces(t *testing.T) {
	for _, c := range []struct {
		kind       int
		body, want string
	}{
		{0, "", "-"},
		{0, "01", "1: | -"},
		{1, "41,5 41,6 6b", "1 5: | 2 5 6: | 3 -1: | - -1"},
		{1, "41,8 02,1 41,5 0b 6a", "1 8: | 2 8: 1/1 | 3 8 5: 1/1 | 4 8 5: | 5 13: | - 13"},
		{0, "02 02 0b 03 01 0b 0b", "1: 0/0 | 2: 0/0 1/0 | 3: 0/0 | 4: 0/0 3/0 | 5: 0/0 3/0 | 6: 0/0 | 7: | -"},
		// An if, with a Height without the number it took.
		{1, "41,8 41,1 04 01 0b", "1 8: | 2 8 1: | 3 8: 2/1 | 4 8: 2/1 | 5 8: | - 8"},
		{1, "41,8 41,0 04 01 0b", "1 8: | 2 8 0: | 5 8: | - 8"},
		{1, "41,-1 04,1 41,2 05 41,3 0b", "1 -1: | 2: 1/0 | 3 2: 1/0 | 6 2: | - 2"},
		{1, "41,0 04,1 41,2 05 41,3 0b", "1 0: | 4: 1/0 | 5 3: 1/0 | 6 3: | - 3"},
		{0, "41,0 04 05 0b", "1 0: | 3: 1/0 | 4: | -"},
		{0, "41,1 04 05 0b", "1 1: | 2: 1/0 | 4: | -"},
		{0, "41,0 04 41,0 04 0b 05 41,0 04 0b 0b", "1 0: | 6: 1/0 | 7 0: 1/0 | 9: 1/0 | 10: | -"},
		// A br out of blocks, with what is left below its result.
		{1, "41,8 02,1 41,4 41,5 0c,0 0b 6a", "1 8: | 2 8: 1/1 | 3 8 4: 1/1 | 4 8 4 5: 1/1 | 6 8 5: | 7 13: | - 13"},
		{1, "41,8 02 41,4 41,5 0c,0 0b", "1 8: | 2 8: 1/1 | 3 8 4: 1/1 | 4 8 4 5: 1/1 | 6 8: | - 8"},
		{0, "02 02 41,4 0c,1 0b 01 0b", "1: 0/0 | 2: 0/0 1/0 | 3 4: 0/0 1/0 | 7: | -"},
		{0, "41,1 04 41,4 0c,0 05 00 0b", "1 1: | 2: 1/0 | 3 4: 1/0 | 7: | -"},
		{0, "41,0 04 00 05 41,4 0c,0 0b", "1 0: | 4: 1/0 | 5 4: 1/0 | 7: | -"},
		// A br to a loop leaves its Label, and nothing above the Height.
		{1, "41,8 03,1 41,4 23,0 41,0 24,0 0d,0 0b 6a",
			"1 8: | 2 8: 1/1 | 3 8 4: 1/1 | 4 8 4 7: 1/1 | 5 8 4 7 0: 1/1 | 6 8 4 7: 1/1 | 2 8: 1/1 | 3 8 4: 1/1 | 4 8 4 0: 1/1 | " +
				"5 8 4 0 0: 1/1 | 6 8 4 0: 1/1 | 7 8 4: 1/1 | 8 8 4: | 9 12: | - 12"},
		{0, "02 03 02 41,3 41,4 23,0 41,0 24,0 0d,1 0c,2 0b 0b 0b",
			"1: 0/0 | 2: 0/0 1/0 | 3: 0/0 1/0 2/0 | 4 3: 0/0 1/0 2/0 | 5 3 4: 0/0 1/0 2/0 | 6 3 4 7: 0/0 1/0 2/0 | 7 3 4 7 0: 0/0 1/0 2/0 | " +
				"8 3 4 7: 0/0 1/0 2/0 | 2: 0/0 1/0 | 3: 0/0 1/0 2/0 | 4 3: 0/0 1/0 2/0 | 5 3 4: 0/0 1/0 2/0 | 6 3 4 0: 0/0 1/0 2/0 | " +
				"7 3 4 0 0: 0/0 1/0 2/0 | 8 3 4 0: 0/0 1/0 2/0 | 9 3 4: 0/0 1/0 2/0 | 13: | -"},
		// br_if without a jump leaves all as it is.
		{1, "02,1 41,4 41,0 0d,0 41,1 6a 0b", "1: 0/0 | 2 4: 0/0 | 3 4 0: 0/0 | 4 4: 0/0 | 5 4 1: 0/0 | 6 5: 0/0 | 7 5: | - 5"},
		// Out of the body.
		{1, "41,8 02 41,4 41,5 0c,1 0b", "1 8: | 2 8: 1/1 | 3 8 4: 1/1 | 4 8 4 5: 1/1 | - 5"},
		{1, "41,8 02 41,4 41,5 0f 0b", "1 8: | 2 8: 1/1 | 3 8 4: 1/1 | 4 8 4 5: 1/1 | - 5"},
		// A call, from which the result comes back to where the arguments lay.
		{1, "41,8 41,3 10,5 6a", "1 8: | 2 8 3: | 0 8: | 1 8 3: | 2 8 3 3: | 3 8 6: | 3 8 6: | 4 14: | - 14"},
	} {
		x := made(t, of(fn{kind: c.kind, body: c.body}, fn{kind: 2, body: "20,0 20,0 6a"}))
		s := begun(t, x)
		var got []string
		for range 100 {
			out := step.Step(x, s)
			got = append(got, standing(s))
			if out.Kind != api.More {
				break
			}
		}
		if all := strings.Join(got, " | "); all != c.want {
			t.Errorf("P14.2: %s: got %s, want %s", c.body, all, c.want)
		}
	}
}

// TestEachNumeric holds each numeric instruction against package ints, in place on the stack.
func TestEachNumeric(t *testing.T) {
	count := 0
	for op := range 256 {
		kinds, result, ok := kindsOf(op)
		if !ok {
			continue
		}
		count++
		pairs := [][]int64{{9, 4}, {-7, 3}, {math.MinInt32, -1}, {5, 0}, {1 << 31, 33}, {math.MinInt64, -1}}
		for _, p := range pairs {
			numericOnce(t, op, kinds, result, p)
		}
	}
	if count != 61 {
		t.Errorf("the test itself: %d numeric instructions", count)
	}
}

func numericOnce(t *testing.T, op int, kinds []int, result int, operands []int64) {
	t.Helper()
	kind := map[int]int{api.I32: 1, api.I64: 4}[result]
	var body string
	var given []api.Val
	for k, want := range kinds {
		v := wrapped(want, operands[k])
		given = append(given, v)
		body += fmt.Sprintf("%x,%d ", 0x40+want, v.N)
	}
	body += fmt.Sprintf("%x", op)
	x := made(t, of(fn{kind: kind, body: body}))
	s := begun(t, x)
	for range kinds {
		step.Step(x, s)
	}
	was := state.Copy(*s)
	v, trap := calculated(op, given)
	want := was
	if trap == api.TrapNone {
		want = state.Copy(was)
		want.Vals = []api.Val{v}
		want.Frames[0].Pc++
	}
	out := step.Step(x, s)
	if out.Trap != trap || (out.Kind == api.More) != (trap == 0) || !state.Eq(*s, want) {
		t.Errorf("P14.2: %s: got %s, %v, want %v, the trap %d", body, told(out), s.Vals, v, trap)
	}
}
