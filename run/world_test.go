package run_test

import (
	"fmt"
	"strconv"
	"strings"
	"testing"

	"diapause/api"
	"diapause/inst"
	"diapause/run"
)

func i32(n int64) api.Val { return api.Val{Kind: api.I32, N: n} }

func i64(n int64) api.Val { return api.Val{Kind: api.I64, N: n} }

// The functions of world, which exports each under its name; ask and tell are imports.
const (
	ask = iota
	tell
	sum     // of the numbers from the argument down to 1, behind a load
	asks    // ask of 5, then tell, then ask of what the first ask gave
	mixed   // of an I64 and an I32, added
	forever // a loop
	zero    // which divides by 0
	beyond  // which loads from where there is nothing
	deep    // which calls itself
	count   // which adds 1 to the global and to the first word of the memory, and gives the global
	bytes   // which loads and stores by each instruction
	away    // which calls a function of the table that gives an I32
	through // which calls one that takes an I32, too
	full    // which fills the stack ahead of the Frames
	grow    // which asks for another page
)

var names = []string{"ask", "tell", "sum", "asks", "mixed", "forever", "zero", "beyond", "deep", "count", "bytes", "away", "through", "full", "grow"}

// world is a module with two pages of at most three, and a table of which 0 and 5 are empty.
func world() api.Module {
	m := api.Module{
		Types: []api.Type{{}, {Results: []int{api.I32}}, {Params: []int{api.I32}, Results: []int{api.I32}},
			{Params: []int{api.I64, api.I32}, Results: []int{api.I64}}},
		Imports: []api.Import{{Mod: "w", Name: "ask", Type: 2}, {Mod: "w", Name: "tell", Type: 0}},
		Funcs:   []int{2, 1, 3, 0, 1, 1, 1, 1, 0, 2, 2, 0, 1},
		Table:   api.Limits{Has: true, Min: 6, Max: -1},
		Mem:     api.Limits{Has: true, Min: 2, Max: 3},
		Globals: []api.Global{{Mut: true, Init: i32(7)}, {Init: i64(-9)}},
		Elems:   []api.Elem{{Off: 1, Funcs: []int{ask, count, tell, sum}}},
	}
	for k, text := range []string{
		"41 28 1a 03 20,1 20 6a 21,1 20 41,1 6b 22 0d 0b 20,1",
		"41,5 10,0 10,1 10,0",
		"20 20,1 ac 7c",
		"03 0c 0b",
		"41,1 41 6d",
		"41,-1 28",
		"10,8",
		"41 41 28 41,1 6a 36 23 41,1 6a 24 23",
		"41 41 28 36 41 41 29 37 41 41 2c 3a 41 2d 1a",
		"20 11,1",
		"41,5 20 11,2",
		strings.Repeat("41 ", 33) + "10,13" + strings.Repeat(" 1a", 33),
		"41,1 40",
	} {
		c := api.Code{Body: parsed(text)}
		if k == 0 {
			c.Locals = []int{api.I32}
		}
		m.Codes = append(m.Codes, c)
	}
	for k, name := range names {
		m.Exports = append(m.Exports, api.Export{Name: name, Func: k})
	}
	return m
}

// small is a module of the function forever alone: the less there is of a module, the sooner a million steps are done.
func small(t *testing.T) *run.Machine {
	t.Helper()
	c, err := run.New(api.Module{
		Types: []api.Type{{}}, Funcs: []int{0}, Codes: []api.Code{{Body: parsed("03 0c 0b")}},
		Exports: []api.Export{{Name: "forever"}},
	})
	if err != api.OK || c.Begin("forever", nil) != api.OK {
		t.Fatalf("P15.1: New and Begin of a loop: %d", err)
	}
	return c
}

// parsed reads a body: opcodes in hexadecimal, some with A behind a comma.
func parsed(s string) []api.Instr {
	var body []api.Instr
	for _, word := range strings.Fields(s) {
		op, a, _ := strings.Cut(word, ",")
		code, err := strconv.ParseInt(op, 16, 64)
		if err != nil {
			panic(err)
		}
		n, _ := strconv.ParseInt(a, 10, 64)
		body = append(body, api.Instr{Op: int(code), A: n})
	}
	return body
}

func made(t *testing.T) *run.Machine {
	t.Helper()
	c, err := run.New(world())
	if err != api.OK || c == nil {
		t.Fatalf("P15.1: New: %d", err)
	}
	return c
}

// begun is a machine on which a function has been begun.
func begun(t *testing.T, name string, args ...api.Val) *run.Machine {
	t.Helper()
	c := made(t)
	if err := c.Begin(name, args); err != api.OK {
		t.Fatalf("P15.1: Begin of %s: %d", name, err)
	}
	return c
}

// content tells the memory, the table and the globals.
func content(x *inst.Inst) string {
	text := fmt.Sprint(x.Space().Elems(), x.Space().Globals(), x.Mem().Dirty())
	for i := range x.Mem().Pages() {
		text += fmt.Sprintf(" %d: %x", i, x.Mem().Page(i))
	}
	return text
}

// told tells all that a machine says of itself.
func told(c *run.Machine) string {
	return fmt.Sprint(c.Out(), c.Meter(), c.Calls(), c.Mark(), c.State(), content(c.Inst()))
}

// goes goes on in pieces to the end, and answers what it is asked for by 100 times the number of the answer.
func goes(c *run.Machine, piece int) api.Outcome {
	for range 10000000 {
		switch out := c.Go(piece); out.Kind {
		case api.More:
		case api.Asks:
			c.Answer(int64(100 * (c.Calls() + 1)))
		default:
			return out
		}
	}
	return api.Outcome{}
}
