package wasm_test

import (
	"math"
	"slices"
	"strconv"
	"strings"
	"testing"

	"diapause/api"
	"diapause/wasm"
)

// try holds a module that is like full but for one change against what May must answer, and all calls against the slow way.
func try(t *testing.T, about string, want bool, change func(*api.Module)) {
	t.Helper()
	m := full()
	change(&m)
	if got := wasm.May(m); got != want {
		t.Errorf("P7.1: May, %s: got %t", about, got)
	}
	if got := wasm.Encode(m); (got != nil) != want {
		t.Errorf("P7.1: Encode, %s: got %.60x", about, got)
	}
	compareModule(t, m, about)
}

// nops are so many of them.
func nops(k int) []api.Instr {
	return slices.Repeat([]api.Instr{{Op: 0x01}}, k)
}

func TestMayOfOrdinary(t *testing.T) {
	if !wasm.May(api.Module{}) {
		t.Error("P7.1: May of the zero Module")
	}
	compareModule(t, api.Module{}, "the zero Module")
	for name, m := range alone() {
		if !wasm.May(m) {
			t.Errorf("P7.1: May of %s alone", name)
		}
		compareModule(t, m, name+" alone")
	}
	if !wasm.May(full()) || !wasm.May(greatest()) {
		t.Error("P7.1: May of all sections together")
	}
	compareModule(t, full(), "all sections together")
	compareModule(t, greatest(), "as much of everything as may be")
}

// TestMayOfNumbers holds how many there may be of each.
func TestMayOfNumbers(t *testing.T) {
	for _, k := range []int{0, 1, 2, 3, 14, 15, 16, 17, 18, 32, 33, 100, 1000} {
		about, few := " "+strconv.Itoa(k), k <= 16
		try(t, "Types"+about, few, func(m *api.Module) { m.Types = make([]api.Type, k) })
		try(t, "Globals"+about, few, func(m *api.Module) { m.Globals = slices.Repeat(m.Globals[:1], k) })
		try(t, "Exports"+about, few, func(m *api.Module) { m.Exports = slices.Repeat(m.Exports[:1], k) })
		try(t, "Elems"+about, few, func(m *api.Module) { m.Elems = make([]api.Elem, k) })
		try(t, "Datas"+about, few, func(m *api.Module) { m.Datas = make([]api.Data, k) })
		try(t, "Imports without Funcs"+about, few, func(m *api.Module) {
			m.Imports, m.Funcs, m.Codes = slices.Repeat(m.Imports[:1], k), nil, nil
		})
		try(t, "Imports beside two Funcs"+about, k <= 14, func(m *api.Module) { m.Imports = slices.Repeat(m.Imports[:1], k) })
		try(t, "Funcs without Imports"+about, few, func(m *api.Module) {
			m.Imports, m.Funcs, m.Codes = nil, make([]int, k), make([]api.Code, k)
		})
		try(t, "Funcs beside two Imports"+about, k <= 14, func(m *api.Module) { m.Funcs, m.Codes = make([]int, k), make([]api.Code, k) })
		try(t, "Codes for two Funcs"+about, k == 2, func(m *api.Module) { m.Codes = make([]api.Code, k) })
		try(t, "Funcs for two Codes"+about, k == 2, func(m *api.Module) { m.Funcs = make([]int, k) })
	}
	for k := range 18 {
		for _, sum := range []int{15, 16, 17} {
			if sum < k {
				continue
			}
			about := strconv.Itoa(k) + " Imports and Funcs up to " + strconv.Itoa(sum)
			try(t, about, sum <= 16, func(m *api.Module) {
				m.Imports, m.Funcs, m.Codes = slices.Repeat(m.Imports[:1], k), make([]int, sum-k), make([]api.Code, sum-k)
			})
			try(t, about+", a Code too few", sum == k && sum <= 16, func(m *api.Module) {
				m.Imports, m.Funcs, m.Codes = slices.Repeat(m.Imports[:1], k), make([]int, sum-k), make([]api.Code, max(0, sum-k-1))
			})
			try(t, about+", a Code too many", false, func(m *api.Module) {
				m.Imports, m.Funcs, m.Codes = slices.Repeat(m.Imports[:1], k), make([]int, sum-k), make([]api.Code, sum-k+1)
			})
		}
	}
	try(t, "Funcs without Codes", false, func(m *api.Module) { m.Codes = nil })
	try(t, "Codes without Funcs", false, func(m *api.Module) { m.Funcs = nil })
}

// TestMayOfKinds holds the lists of kinds: those of a type, and the Locals.
func TestMayOfKinds(t *testing.T) {
	for _, k := range []int{0, 1, 2, 31, 32, 33, 34, 64, 1000} {
		about := " " + strconv.Itoa(k)
		l := slices.Repeat([]int{2, 1}, 500)[:k]
		try(t, "Params"+about, k <= 32, func(m *api.Module) { m.Types[1].Params = l })
		try(t, "Params of the first type"+about, k <= 32, func(m *api.Module) { m.Types[0].Params = l })
		try(t, "Results"+about, k <= 1, func(m *api.Module) { m.Types[1].Results = l })
		try(t, "Results of the first type"+about, k <= 1, func(m *api.Module) { m.Types[0].Results = l })
		try(t, "Locals"+about, k <= 32, func(m *api.Module) { m.Codes[1].Locals = l })
		try(t, "equal Locals"+about, k <= 32, func(m *api.Module) { m.Codes[0].Locals = slices.Repeat([]int{2}, k) })
	}
	for _, kind := range []int{-1, 0, 1, 2, 3, 4, 0x40, 0x7e, 0x7f, 0x80, 257, 1 << 32, 1<<32 + 1, math.MinInt, math.MaxInt} {
		about, good := " of the kind "+strconv.Itoa(kind), kind == 1 || kind == 2
		try(t, "Params"+about, good, func(m *api.Module) { m.Types[0].Params = []int{kind} })
		try(t, "last of the Params"+about, good, func(m *api.Module) { m.Types[1].Params = append(slices.Repeat([]int{1}, 31), kind) })
		try(t, "Results"+about, good, func(m *api.Module) { m.Types[1].Results = []int{kind} })
		try(t, "Locals"+about, good, func(m *api.Module) { m.Codes[1].Locals = []int{kind} })
		try(t, "first of the Locals"+about, good, func(m *api.Module) { m.Codes[0].Locals[0] = kind })
		try(t, "last of the Locals"+about, good, func(m *api.Module) { m.Codes[0].Locals[3] = kind })
	}
}

// named sets each of the names of full in turn.
func named(s string) map[string]func(*api.Module) {
	return map[string]func(*api.Module){
		"Mod":               func(m *api.Module) { m.Imports[0].Mod = s },
		"Name":              func(m *api.Module) { m.Imports[0].Name = s },
		"Mod of the last":   func(m *api.Module) { m.Imports[1].Mod = s },
		"Name of the last":  func(m *api.Module) { m.Imports[1].Name = s },
		"Name of an Export": func(m *api.Module) { m.Exports[0].Name = s },
		"the last Name":     func(m *api.Module) { m.Exports[1].Name = s },
	}
}

func TestMayOfNames(t *testing.T) {
	for _, k := range []int{0, 1, 2, 15, 16, 17, 18, 127, 128, 1000} {
		for about, change := range named(strings.Repeat("n", k)) {
			try(t, about+" of "+strconv.Itoa(k)+" bytes", k >= 1 && k <= 16, change)
		}
	}
	for b := range 256 {
		good := b >= 32 && b <= 126
		for _, s := range []string{"", "\x20", "~~~~~~~~~~~~~~~"} {
			for about, change := range named(s + string([]byte{byte(b)})) {
				try(t, about+" that ends with "+strconv.Itoa(b), good, change)
			}
			for about, change := range named(string([]byte{byte(b)}) + s) {
				try(t, about+" that begins with "+strconv.Itoa(b), good, change)
			}
		}
	}
	// Sixteen characters, but more bytes; and bytes that are no characters.
	for _, s := range []string{strings.Repeat("é", 16), strings.Repeat("é", 8), "é", "\xff", "a\x00", "\n"} {
		for about, change := range named(s) {
			try(t, about+" "+strconv.Quote(s), false, change)
		}
	}
	try(t, "equal names", true, func(m *api.Module) { m.Exports[1], m.Imports[1] = m.Exports[0], m.Imports[0] })
}

// edges are the numbers around all bounds.
func edges() []int {
	l := []int{math.MinInt, math.MinInt + 1, math.MaxInt, math.MaxInt - 1}
	for _, n := range []int{0, 16, 64, 128, 1000, 8192, 16384, 65536, 1 << 31, -1 << 31, 1 << 32, -1 << 32} {
		l = append(l, n-2, n-1, n, n+1, n+2)
	}
	return l
}

func TestMayOfIndices(t *testing.T) {
	for _, n := range edges() {
		about, good := " "+strconv.Itoa(n), n >= 0 && n <= 1000
		try(t, "the Type of an import"+about, good, func(m *api.Module) { m.Imports[0].Type = n })
		try(t, "the Type of the last import"+about, good, func(m *api.Module) { m.Imports[1].Type = n })
		try(t, "a Func's type"+about, good, func(m *api.Module) { m.Funcs[0] = n })
		try(t, "the last Func's type"+about, good, func(m *api.Module) { m.Funcs[1] = n })
		try(t, "an Export's Func"+about, good, func(m *api.Module) { m.Exports[0].Func = n })
		try(t, "the last Export's Func"+about, good, func(m *api.Module) { m.Exports[1].Func = n })
		try(t, "an Elem's Func"+about, good, func(m *api.Module) { m.Elems[0].Funcs[0] = n })
		try(t, "an Elem's last Func"+about, good, func(m *api.Module) { m.Elems[0].Funcs[1] = n })
		try(t, "the last Elem's Func"+about, good, func(m *api.Module) { m.Elems[1].Funcs = []int{n} })
	}
}

func TestMayOfLimits(t *testing.T) {
	for _, n := range edges() {
		about := " " + strconv.Itoa(n)
		for _, other := range []int{-1, 0, 3, 16} {
			table := func(x api.Limits) func(*api.Module) { return func(m *api.Module) { m.Table = x } }
			mem := func(x api.Limits) func(*api.Module) { return func(m *api.Module) { m.Mem = x } }
			beside := about + " with Max " + strconv.Itoa(other)
			try(t, "the table's Min"+beside, n >= 0 && n <= 16, table(api.Limits{Has: true, Min: n, Max: other}))
			try(t, "the memory's Min"+beside, n >= 0 && n <= 16, mem(api.Limits{Has: true, Min: n, Max: other}))
			// A Max may lie below the Min.
			beside = about + " with Min " + strconv.Itoa(other)
			try(t, "the table's Max"+beside, n >= -1 && n <= 1000 && other >= 0, table(api.Limits{Has: true, Min: other, Max: n}))
			try(t, "the memory's Max"+beside, n >= -1 && n <= 65536 && other >= 0, mem(api.Limits{Has: true, Min: other, Max: n}))
		}
		try(t, "the Min of no table"+about, n == 0, func(m *api.Module) { m.Table = api.Limits{Min: n} })
		try(t, "the Max of no table"+about, n == 0, func(m *api.Module) { m.Table = api.Limits{Max: n} })
		try(t, "the Min of no memory"+about, n == 0, func(m *api.Module) { m.Mem = api.Limits{Min: n} })
		try(t, "the Max of no memory"+about, n == 0, func(m *api.Module) { m.Mem = api.Limits{Max: n} })
	}
}

func TestMayOfGlobals(t *testing.T) {
	for _, n := range edges() {
		for _, kind := range []int{-1, 0, api.I32, api.I64, 3, 1 << 32} {
			for at := range 2 {
				good := kind == api.I64 || kind == api.I32 && n >= -1<<31 && n < 1<<31
				try(t, "a global of the kind "+strconv.Itoa(kind)+" with "+strconv.Itoa(n), good, func(m *api.Module) {
					m.Globals[at].Init = api.Val{Kind: kind, N: int64(n)}
				})
			}
		}
	}
}

func TestMayOfParts(t *testing.T) {
	for _, n := range edges() {
		about, good := " "+strconv.Itoa(n), n >= -1<<31 && n < 1<<31
		for at := range 2 {
			try(t, "the Off of an Elem"+about, good, func(m *api.Module) { m.Elems[at].Off = n })
			try(t, "the Off of a Data"+about, good, func(m *api.Module) { m.Datas[at].Off = n })
		}
	}
	for _, k := range []int{0, 1, 49, 50, 51, 52, 127, 128, 999, 1000, 1001, 1002, 2000} {
		about := " " + strconv.Itoa(k)
		for at := range 2 {
			try(t, "Funcs of an Elem"+about, k <= 50, func(m *api.Module) { m.Elems[at].Funcs = make([]int, k) })
			try(t, "Bytes of a Data"+about, k <= 1000, func(m *api.Module) { m.Datas[at].Bytes = make([]byte, k) })
		}
	}
}

func TestMayOfBodies(t *testing.T) {
	deep := func(k int) []api.Instr {
		return slices.Concat(slices.Repeat([]api.Instr{{Op: 0x02}}, k), slices.Repeat([]api.Instr{{Op: 0x0b}}, k))
	}
	for about, l := range map[string][]api.Instr{
		"none": nil, "empty": {}, "a nop": nops(1), "299 nops": nops(299), "300 nops": nops(300), "40 blocks": deep(40),
		"an if": {{Op: 0x04}, {Op: 0x05}, {Op: 0x0b}}, "a constant": {{Op: 0x41, A: math.MinInt32}}, "50 branches": {{Op: 0x0e, L: make([]int, 50)}},
		"what no check would let pass": {{Op: 0x6a}, {Op: 0x0c, A: 1000}, {Op: 0x10, A: 1000}},
	} {
		for at := range 2 {
			try(t, "a body of "+about, true, func(m *api.Module) { m.Codes[at].Body = l })
		}
	}
	for about, l := range map[string][]api.Instr{
		"301 nops": nops(301), "41 blocks": deep(41), "an end": {{Op: 0x0b}}, "an else": {{Op: 0x05}}, "a block": {{Op: 0x02}},
		"a block with an else": {{Op: 0x02}, {Op: 0x05}, {Op: 0x0b}}, "an if with two": {{Op: 0x04}, {Op: 0x05}, {Op: 0x05}, {Op: 0x0b}},
		"no opcode": {{Op: 0x06}}, "a nop with an operand": {{Op: 0x01, A: 1}}, "a constant too great": {{Op: 0x41, A: 1 << 31}},
		"51 branches": {{Op: 0x0e, L: make([]int, 51)}}, "a block of no kind": {{Op: 0x02, A: 3}, {Op: 0x0b}},
		"a nop, and no opcode": {{Op: 0x01}, {Op: -1}}, "no opcode, and a nop": {{Op: 256}, {Op: 0x01}}, "a call of 1,001": {{Op: 0x10, A: 1001}},
		"a nop with B": {{Op: 0x01, B: 1}}, "a nop with L": {{Op: 0x01, L: []int{1}}},
	} {
		for at := range 2 {
			try(t, "a body of "+about, false, func(m *api.Module) { m.Codes[at].Body = l })
		}
	}
}

// TestMayOfLength holds the greatest number of bytes: 8,000, whatever they are made of.
func TestMayOfLength(t *testing.T) {
	for size := 6300; size <= 8100; size += 25 {
		compareModule(t, long(size), strconv.Itoa(size)+" bytes")
	}
	for size := 7980; size <= 8020; size++ {
		m := long(size)
		if got := len(encode(m)); got != size {
			t.Fatalf("the test's module of %d bytes has %d", size, got)
		}
		if got := wasm.May(m); got != (size <= 8000) {
			t.Errorf("P7.1: May of a module of %d bytes: got %t", size, got)
		}
		compareModule(t, m, strconv.Itoa(size)+" bytes")
	}
	wide := []api.Instr{{Op: 0x0e, A: 1000, L: slices.Repeat([]int{1000}, 50)}}
	for k := range 120 {
		m := api.Module{Funcs: []int{0}, Codes: []api.Code{{Body: slices.Repeat(wide, k)}}}
		compareModule(t, m, strconv.Itoa(k)+" long instructions")
		if got := wasm.May(m); got != (len(encode(m)) <= 8000) {
			t.Errorf("P7.1: May of %d long instructions: got %t", k, got)
		}
	}
	m := greatest()
	m.Datas = slices.Repeat(m.Datas[15:], 16)
	try(t, "as much of everything as may be, but too long", false, func(x *api.Module) { *x = m })
}

// TestMayOfVeryMuch holds P0.1 against very long lists, and numbers at the ends of int.
func TestMayOfVeryMuch(t *testing.T) {
	const many = 1 << 20
	name := strings.Repeat("n", many)
	for about, change := range map[string]func(*api.Module){
		"Types":           func(m *api.Module) { m.Types = make([]api.Type, many) },
		"Params":          func(m *api.Module) { m.Types[0].Params = slices.Repeat([]int{1}, many) },
		"Results":         func(m *api.Module) { m.Types[0].Results = slices.Repeat([]int{1}, many) },
		"Imports":         func(m *api.Module) { m.Imports = make([]api.Import, many) },
		"Mod":             func(m *api.Module) { m.Imports[0].Mod = name },
		"Name":            func(m *api.Module) { m.Imports[0].Name = name },
		"Funcs":           func(m *api.Module) { m.Funcs = make([]int, many) },
		"Funcs and Codes": func(m *api.Module) { m.Funcs, m.Codes = make([]int, many), make([]api.Code, many) },
		"Globals":         func(m *api.Module) { m.Globals = make([]api.Global, many) },
		"Exports":         func(m *api.Module) { m.Exports = make([]api.Export, many) },
		"Export's Name":   func(m *api.Module) { m.Exports[0].Name = name },
		"Elems":           func(m *api.Module) { m.Elems = make([]api.Elem, many) },
		"Elem's Funcs":    func(m *api.Module) { m.Elems[0].Funcs = make([]int, many) },
		"Codes":           func(m *api.Module) { m.Codes = make([]api.Code, many) },
		"Locals":          func(m *api.Module) { m.Codes[0].Locals = slices.Repeat([]int{1}, many) },
		"Body":            func(m *api.Module) { m.Codes[0].Body = nops(many) },
		"L":               func(m *api.Module) { m.Codes[0].Body = []api.Instr{{Op: 0x0e, L: make([]int, many)}} },
		"Datas":           func(m *api.Module) { m.Datas = make([]api.Data, many) },
		"Bytes":           func(m *api.Module) { m.Datas[0].Bytes = make([]byte, many) },
	} {
		m := full()
		change(&m)
		if wasm.May(m) || wasm.Encode(m) != nil {
			t.Errorf("P7.1: May of very many %s", about)
		}
		if !wasm.Eq(m, m) || wasm.Eq(m, full()) || wasm.Eq(full(), m) {
			t.Errorf("P7.1: Eq of very many %s", about)
		}
	}
}
