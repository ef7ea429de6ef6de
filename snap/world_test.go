package snap_test

import (
	"fmt"
	"math"
	"strconv"
	"strings"
	"testing"

	"diapause/api"
	"diapause/meter"
	"diapause/run"
	"diapause/snap"
)

func i32(n int64) api.Val { return api.Val{Kind: api.I32, N: n} }

func i64(n int64) api.Val { return api.Val{Kind: api.I64, N: n} }

// parsed reads a body: opcodes in hexadecimal, each with A and B, or with L and then A, by commas.
func parsed(s string) []api.Instr {
	var body []api.Instr
	for _, word := range strings.Fields(s) {
		parts := strings.Split(word, ",")
		op, err := strconv.ParseInt(parts[0], 16, 64)
		if err != nil {
			panic(err)
		}
		x := api.Instr{Op: int(op)}
		var numbers []int64
		for _, p := range parts[1:] {
			n, err := strconv.ParseInt(p, 10, 64)
			if err != nil {
				panic(err)
			}
			numbers = append(numbers, n)
		}
		if x.Op == 0x0e {
			for _, n := range numbers[:len(numbers)-1] {
				x.L = append(x.L, int(n))
			}
			numbers = numbers[len(numbers)-1:]
		}
		if len(numbers) > 0 {
			x.A = numbers[0]
		}
		if len(numbers) > 1 {
			x.B = numbers[1]
		}
		body = append(body, x)
	}
	return body
}

// fn is a function by its name, the number of its type, its body as text, and its locals beside the parameters.
type fn struct {
	name   string
	kind   int
	body   string
	locals []int
}

// The imports of every module of these tests; the functions of its own follow.
const (
	ask  = iota // of the type 2
	tell        // of the type 0
	wide        // of the type 3
	own         // the first one of the module
)

// bare is a module of these functions, without memory, table and globals.
func bare(fns ...fn) api.Module {
	m := api.Module{
		Types: []api.Type{{}, {Results: []int{api.I32}}, {Params: []int{api.I32}, Results: []int{api.I32}},
			{Params: []int{api.I64, api.I32}, Results: []int{api.I64}}, {Results: []int{api.I64}}},
		Imports: []api.Import{{Mod: "w", Name: "ask", Type: 2}, {Mod: "w", Name: "tell"}, {Mod: "w", Name: "wide", Type: 3}},
	}
	for k, f := range fns {
		m.Funcs = append(m.Funcs, f.kind)
		m.Codes = append(m.Codes, api.Code{Locals: f.locals, Body: parsed(f.body)})
		if f.name != "" {
			m.Exports = append(m.Exports, api.Export{Name: f.name, Func: own + k})
		}
	}
	return m
}

// of is a module of these functions, with one page of at most three, a table of four, of which 0 and 3 are empty, and three globals.
func of(fns ...fn) api.Module {
	m := bare(fns...)
	m.Table = api.Limits{Has: true, Min: 4, Max: -1}
	m.Mem = api.Limits{Has: true, Min: 1, Max: 3}
	m.Globals = []api.Global{{Mut: true, Init: i32(7)}, {Init: i64(-9)}, {Mut: true, Init: i64(math.MinInt64)}}
	m.Elems = []api.Elem{{Off: 1, Funcs: []int{ask, own}}}
	m.Datas = []api.Data{{Off: 3, Bytes: []byte("abc")}}
	return m
}

// world is a module of functions that come to all the ends there are.
func world() api.Module {
	return of(
		fn{"asks", 2, "41,5 42,9 41,-1 10,2 1a 20 10,0 10,1 6a", nil},
		fn{"nothing", 0, "42,8 1a", nil},
		fn{"large", 4, "42,-9223372036854775808", nil},
		fn{"unreachable", 0, "00", nil},
		fn{"zero", 2, "20 20 6d", nil},
		fn{"over", 4, "42,-9223372036854775808 42,-1 7f", nil},
		fn{"beyond", 1, "41,-1 28", nil},
		fn{"away", 2, "41,6 20 11,2", nil},
		fn{"deep", 0, "10,11", nil},
		fn{"full", 0, strings.Repeat("41,2147483647 ", 33) + "10,12" + strings.Repeat(" 1a", 33), nil},
		fn{"blocks", 3, "42,1 02,2 03 20,2 41,1 6a 22,2 41,4 48 04,1 41,5 20,2 20,1 6a 10,0 6a 05 42,3 0c,2 0b 21,2 0c,0 0b 00 0b 7c", []int{api.I32, api.I64}},
		fn{"grow", 0, "41,1 40 24 41 41,9 36 42,3 24,2", nil},
		fn{"forever", 0, "03 0c 0b", nil},
	)
}

func made(t *testing.T, m api.Module) *run.Machine {
	t.Helper()
	c, err := run.New(m)
	if err != api.OK {
		t.Fatalf("the test itself: New: %d", err)
	}
	return c
}

// begun is a machine of m on which a function has been begun, and so many steps were executed; imports are answered by 0.
func begun(t *testing.T, m api.Module, steps int, name string, args ...api.Val) *run.Machine {
	t.Helper()
	c := made(t, m)
	if err := c.Begin(name, args); err != api.OK {
		t.Fatalf("the test itself: Begin of %s: %d", name, err)
	}
	for range steps {
		if c.Out().Kind == api.Asks {
			c.Answer(0)
		}
		c.Go(1)
	}
	return c
}

// machines are machines of world that stand in all ways, by their names.
func machines(t *testing.T) map[string]*run.Machine {
	m := world()
	all := map[string]*run.Machine{
		"nothing begun":      made(t, m),
		"just begun":         begun(t, m, 0, "asks", i32(math.MinInt32)),
		"running":            begun(t, m, 2, "asks", i32(math.MaxInt32)),
		"asking":             begun(t, m, 4, "asks", i32(3)),
		"asking, once more":  begun(t, m, 7, "asks", i32(math.MaxInt32)),
		"asking for nothing": begun(t, m, 8, "asks", i32(3)),
		"a result":           begun(t, m, 99, "asks", i32(3)),
		"no result":          begun(t, m, 99, "nothing"),
		"a large result":     begun(t, m, 99, "large"),
		"unreachable":        begun(t, m, 99, "unreachable"),
		"zero":               begun(t, m, 99, "zero", i32(0)),
		"over":               begun(t, m, 99, "over"),
		"beyond":             begun(t, m, 99, "beyond"),
		"no element":         begun(t, m, 99, "away", i32(3)),
		"far beyond":         begun(t, m, 99, "away", i32(-1)),
		"by the table":       begun(t, m, 3, "away", i32(2)),
		"asked by the table": begun(t, m, 3, "away", i32(1)),
		"deep":               begun(t, m, 20, "deep"),
		"too deep":           begun(t, m, 99, "deep"),
		"full":               begun(t, m, 1200, "full"),
		"in blocks":          begun(t, m, 13, "blocks", i64(math.MinInt64), i32(-1)),
		"asking in blocks":   begun(t, m, 15, "blocks", i64(math.MaxInt64), i32(-1)),
		"behind blocks":      begun(t, m, 99, "blocks", i64(5), i32(-1)),
		"grown":              begun(t, m, 99, "grow"),
	}
	typed := made(t, m)
	typed.Inst().Space().SetElems(3, []int{tell})
	typed.Begin("away", []api.Val{i32(3)})
	typed.Go(99)
	all["another type"] = typed
	table := made(t, m)
	table.Inst().Space().SetElems(0, []int{99, 2, math.MinInt, math.MaxInt})
	all["another table"] = table
	emptied := made(t, m)
	emptied.Inst().Space().SetElems(1, []int{-1})
	all["an emptied table"] = emptied
	globals := made(t, m)
	globals.Inst().Space().SetGlobal(0, i32(math.MinInt32))
	globals.Inst().Space().SetGlobal(1, i64(math.MaxInt64))
	all["other globals"] = globals
	exhausted := begun(t, m, 0, "forever")
	exhausted.Set(exhausted.State(), exhausted.Out(), meter.Of(api.MaxSteps-3, 8*(api.MaxSteps-3)), api.MaxSteps-3, meter.Of(1000002, 1000002))
	exhausted.Go(9)
	all["exhausted"] = exhausted
	again := begun(t, m, 99, "grow")
	again.Begin("asks", []api.Val{i32(3)})
	again.Go(9)
	all["asking, with another call before"] = again
	return all
}

// told tells all that a machine is, with the contents of its memory, but not which pages are dirty.
func told(c *run.Machine) string {
	x := c.Inst()
	text := fmt.Sprint(c.Out(), c.Meter(), c.Calls(), c.Mark(), c.State(), x.Space().Elems(), x.Space().Globals())
	for i := range x.Mem().Pages() {
		text += fmt.Sprintf(" %d: %x", i, x.Mem().Page(i))
	}
	return text
}

// pages are those of a machine's memory, and those of another one's if it is another memory.
func pages(c *run.Machine) func(i int) []byte { return c.Inst().Mem().Page }

// zeros are pages of zero bytes.
func zeros(int) []byte { return make([]byte, 256) }

// move goes on by a step, or an answer.
func move(c *run.Machine) {
	if c.Out().Kind == api.Asks {
		c.Answer(int64(c.Calls()) * -12345678901)
		return
	}
	c.Go(1)
}

// hold holds that Save and Load give the same machine again.
func hold(t *testing.T, m api.Module, c *run.Machine, about string) *run.Machine {
	t.Helper()
	b := snap.Save(c)
	asked := ""
	d, err := snap.Load(m, b, func(i int) []byte {
		asked += fmt.Sprint(i, " ")
		return c.Inst().Mem().Page(i)
	})
	if err != api.OK || d == nil {
		t.Fatalf("P16.1: %s: Load: %d; %s", about, err, told(c))
	}
	if told(d) != told(c) {
		t.Fatalf("P16.1: %s: Load: got %s, want %s", about, told(d), told(c))
	}
	if len(d.Inst().Mem().Dirty()) > 0 {
		t.Fatalf("P16.1: %s: dirty: %v", about, d.Inst().Mem().Dirty())
	}
	if string(snap.Save(d)) != string(b) {
		t.Fatalf("P16.1: %s: Save of what was loaded: got %x, want %x", about, snap.Save(d), b)
	}
	want := ""
	for i := range c.Inst().Mem().Pages() {
		want += fmt.Sprint(i, " ")
	}
	if asked != want {
		t.Fatalf("P16.1: %s: page was called for %s, want %s", about, asked, want)
	}
	return d
}

// refuse holds that b is no encoding of a machine of m.
func refuse(t *testing.T, m api.Module, b []byte, about string) {
	t.Helper()
	asked := 0
	d, err := snap.Load(m, b, func(int) []byte {
		asked++
		return make([]byte, 256)
	})
	if d != nil || err != api.ErrCorrupt || asked > 0 {
		t.Errorf("P16.1: %s: Load of %x: got %d, want ErrCorrupt; %d pages were asked for", about, b, err, asked)
	}
}
