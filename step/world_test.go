package step_test

import (
	"fmt"
	"math"
	"slices"
	"strconv"
	"strings"
	"testing"

	"diapause/api"
	"diapause/inst"
	"diapause/state"
	"diapause/step"
)

// The functions of every module of these tests: four imports, and then its own.
const (
	ask  = iota // of the type 2
	tell        // of the type 0
	wide        // of the type 3
	now         // of the type 1
	own         // the first one of the module
)

func i32(n int64) api.Val { return api.Val{Kind: api.I32, N: n} }

func i64(n int64) api.Val { return api.Val{Kind: api.I64, N: n} }

// fn is a function by the number of its type, its body as text, and its locals beside the parameters.
type fn struct {
	kind   int
	body   string
	locals []int
}

// of is a module of these functions, with two pages of at most four, five elements, of which 0 and 4 are empty, and four globals.
func of(fns ...fn) api.Module {
	m := api.Module{
		Types: []api.Type{{}, {Results: []int{api.I32}}, {Params: []int{api.I32}, Results: []int{api.I32}},
			{Params: []int{api.I64, api.I32}, Results: []int{api.I64}}, {Results: []int{api.I64}}, {Results: []int{api.I32}},
			{Params: []int{api.I32}}},
		Imports: []api.Import{{Mod: "w", Name: "ask", Type: 2}, {Mod: "w", Name: "tell"}, {Mod: "w", Name: "wide", Type: 3},
			{Mod: "w", Name: "now", Type: 1}},
		Table:   api.Limits{Has: true, Min: 5, Max: -1},
		Mem:     api.Limits{Has: true, Min: 2, Max: 4},
		Globals: []api.Global{{Mut: true, Init: i32(7)}, {Init: i64(-9)}, {Mut: true, Init: i64(math.MinInt64)}, {Init: i32(-1)}},
		Elems:   []api.Elem{{Off: 1, Funcs: []int{ask, own, tell}}},
		Datas:   []api.Data{{Off: 3, Bytes: []byte("abc")}, {Off: 254, Bytes: []byte{0x81, 0xfe, 0x12, 0x93}}},
	}
	for _, f := range fns {
		m.Funcs = append(m.Funcs, f.kind)
		m.Codes = append(m.Codes, api.Code{Locals: f.locals, Body: parsed(f.body)})
	}
	return m
}

// parsed reads a body: opcodes in hexadecimal, each with A and B, or with L and then A, by commas.
func parsed(s string) []api.Instr {
	var body []api.Instr
	for _, word := range strings.Fields(s) {
		parts := strings.Split(word, ",")
		op, err := strconv.ParseInt(parts[0], 16, 64)
		if err != nil {
			panic(err)
		}
		x := api.Instr{Op: int(op)}
		var numbers []int64
		for _, p := range parts[1:] {
			n, err := strconv.ParseInt(p, 10, 64)
			if err != nil {
				panic(err)
			}
			numbers = append(numbers, n)
		}
		if x.Op == 0x0e {
			for _, n := range numbers[:len(numbers)-1] {
				x.L = append(x.L, int(n))
			}
			numbers = numbers[len(numbers)-1:]
		}
		numbers = append(numbers, 0, 0)
		x.A, x.B = numbers[0], numbers[1]
		body = append(body, x)
	}
	return body
}

// made is an instance of m, which must be valid.
func made(t *testing.T, m api.Module) *inst.Inst {
	t.Helper()
	x, err := inst.New(m)
	if err != api.OK {
		t.Fatalf("the test itself: the module is not valid: %d, %v", err, m.Codes)
	}
	return x
}

// begun is a state in which the function own has just been called.
func begun(t *testing.T, x *inst.Inst, args ...api.Val) *state.State {
	t.Helper()
	s := &state.State{Asks: -1}
	if out := step.Call(x, s, own, args); told(out) != "more" {
		t.Fatalf("P14.1: Call: %s", told(out))
	}
	return s
}

// vals are n values, 1, 2, 3 and so on.
func vals(n int) []api.Val {
	var l []api.Val
	for k := range n {
		l = append(l, i32(int64(k+1)))
	}
	return l
}

// told tells an Outcome in words; what a kind has no use for must be zero.
func told(out api.Outcome) string {
	want := api.Outcome{Kind: out.Kind}
	s := "none"
	switch out.Kind {
	case api.More:
		s = "more"
	case api.Asks:
		s = fmt.Sprint("asks ", out.Fn, list(out.Vals))
		want.Fn, want.Vals = out.Fn, out.Vals
	case api.Done:
		s = "done" + list(out.Vals)
		want.Vals = out.Vals
	case api.Trapped:
		s = fmt.Sprint("trap ", out.Trap)
		want.Trap = out.Trap
	case api.Exhausted:
		s = "exhausted"
	}
	if out.Trap != want.Trap || out.Fn != want.Fn || !slices.Equal(out.Vals, want.Vals) {
		return fmt.Sprint("with what it has no use for: ", out)
	}
	return s
}

// list tells values, an I64 with an L behind it.
func list(l []api.Val) string {
	var s string
	for _, v := range l {
		s += " " + strconv.FormatInt(v.N, 10)
		switch v.Kind {
		case api.I32:
		case api.I64:
			s += "L"
		default:
			s += "?"
		}
	}
	return s
}

// standing tells where the last Frame stands: its Pc, all Vals, and behind a colon its Labels as At/Height.
func standing(s *state.State) string {
	if len(s.Frames) == 0 {
		return "-" + list(s.Vals)
	}
	f := s.Frames[len(s.Frames)-1]
	text := strconv.Itoa(f.Pc) + list(s.Vals) + ":"
	for _, l := range f.Labels {
		text += fmt.Sprintf(" %d/%d", l.At, l.Height)
	}
	return text
}

// content is a copy of all that an instance has beside its module.
func content(x *inst.Inst) string {
	var pages []string
	for k := range x.Mem().Pages() {
		pages = append(pages, string(x.Mem().Page(k)))
	}
	return fmt.Sprintf("%q %v %v %v", pages, x.Mem().Dirty(), x.Space().Elems(), x.Space().Globals())
}

// ran runs the function own to its end, with 100, 200 and so on as answers, and tells all Outcomes but More.
func ran(t *testing.T, m api.Module, args ...api.Val) string {
	t.Helper()
	x := made(t, m)
	s := begun(t, x, args...)
	var all string
	answer := int64(0)
	for range 5000 {
		before, was := content(x), state.Copy(*s)
		out := step.Step(x, s)
		switch out.Kind {
		case api.More:
			continue
		case api.Asks:
			answer += 100
			if !step.Answer(x, s, answer) {
				t.Errorf("P14.1: Answer: nothing is requested behind %s", told(out))
			}
			all += told(out) + ", "
			continue
		case api.Done:
			if len(s.Frames) > 0 || s.Asks != -1 || !slices.Equal(s.Vals, out.Vals) {
				t.Errorf("P14.2: Done: %v is left, not %v", *s, out.Vals)
			}
		default:
			if !state.Eq(*s, was) || content(x) != before {
				t.Errorf("P14.2: %s: the state or the instance has changed: %v, was %v", told(out), *s, was)
			}
		}
		return all + told(out)
	}
	t.Errorf("P14.2: it does not end: %v", m.Codes)
	return all
}
