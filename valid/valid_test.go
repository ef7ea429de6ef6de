package valid_test

import (
	"bytes"
	"math"
	"slices"
	"strconv"
	"strings"
	"testing"

	"diapause/api"
	"diapause/wasm"
)

func TestExamples(t *testing.T) {
	hold(t, api.Module{}, -1, "the zero Module")
	hold(t, world(), -1, "two of everything")
	hold(t, bare(), -1, "two of everything that is not made use of")
	m := world()
	m.Exports[0].Func, m.Elems[0].Funcs[0] = 5, 5
	hold(t, m, 7, "the functions of an export and of an Elem that do not exist")
}

// TestSmall holds modules of a few parts.
func TestSmall(t *testing.T) {
	seven := api.Module{
		Types:   []api.Type{{Results: []int{api.I32}}},
		Funcs:   []int{0},
		Exports: []api.Export{{Name: "seven", Func: 0}},
		Codes:   []api.Code{{Body: []api.Instr{{Op: i32Const, A: 7}}}},
	}
	hold(t, seven, -1, "a function that leaves 7")
	seven.Codes[0].Body[0].Op = i64Const
	hold(t, seven, 10, "a function that leaves a 7 of another kind")
	m := world()
	for about, alone := range map[string]api.Module{
		"Types":            {Types: m.Types},
		"Imports":          {Types: m.Types, Imports: m.Imports},
		"a table":          {Table: m.Table},
		"a memory":         {Mem: m.Mem},
		"Globals":          {Globals: m.Globals},
		"an Elem":          {Table: m.Table, Elems: []api.Elem{{}}},
		"a Data":           {Mem: m.Mem, Datas: m.Datas},
		"exported Imports": {Types: m.Types, Imports: m.Imports, Exports: []api.Export{{Name: "e"}, {Name: "f", Func: 1}}},
	} {
		hold(t, alone, -1, about+" alone")
	}
	for about, alone := range map[string]struct {
		m    api.Module
		want int
	}{
		"Imports":                             {api.Module{Imports: m.Imports}, 2},
		"a Func":                              {api.Module{Funcs: []int{0}, Codes: m.Codes[:1]}, 3},
		"Exports":                             {api.Module{Exports: m.Exports[1:2]}, 7},
		"Elems":                               {api.Module{Elems: m.Elems}, 9},
		"an Elem":                             {api.Module{Elems: []api.Elem{{}}}, 9},
		"an Elem of Funcs that are not there": {api.Module{Table: m.Table, Elems: []api.Elem{{Funcs: []int{0}}}}, 9},
		"Datas":                               {api.Module{Datas: m.Datas}, 11},
		"a Data":                              {api.Module{Datas: []api.Data{{}}}, 11},
		"a Func without its Code":             {api.Module{Types: m.Types, Funcs: []int{0}}, 0},
		"a Code without its Func":             {api.Module{Types: m.Types, Codes: make([]api.Code, 1)}, 0},
	} {
		hold(t, alone.m, alone.want, about+" alone")
	}
}

// TestForm holds the part 0: what is no module by its form, and what just is one.
func TestForm(t *testing.T) {
	nops := func(k int) []api.Instr { return slices.Repeat([]api.Instr{{Op: nop}}, k) }
	nest := func(k int) []api.Instr {
		return append(slices.Repeat([]api.Instr{{Op: block}}, k), slices.Repeat([]api.Instr{{Op: end}}, k)...)
	}
	for about, change := range map[string]func(m *api.Module, beyond int){
		"Types":          func(m *api.Module, k int) { m.Types = append(m.Types, make([]api.Type, 12+k)...) },
		"Imports":        func(m *api.Module, k int) { *m = bare(); m.Imports = slices.Repeat(m.Imports[:1], 13+k) },
		"Globals":        func(m *api.Module, k int) { m.Globals = slices.Repeat(m.Globals[:1], 16+k) },
		"Elems":          func(m *api.Module, k int) { m.Elems = slices.Repeat(m.Elems, 9)[:16+k] },
		"Datas":          func(m *api.Module, k int) { m.Datas = slices.Repeat(m.Datas, 9)[:16+k] },
		"Params":         func(m *api.Module, k int) { m.Types = append(m.Types, api.Type{Params: slices.Repeat([]int{1}, 32+k)}) },
		"Results":        func(m *api.Module, k int) { m.Types = append(m.Types, api.Type{Results: slices.Repeat([]int{2}, 1+k)}) },
		"a kind":         func(m *api.Module, k int) { m.Types = append(m.Types, api.Type{Results: []int{2 + k}}) },
		"a name":         func(m *api.Module, k int) { m.Exports[2].Name = strings.Repeat("n", 16+k) },
		"a byte":         func(m *api.Module, k int) { m.Exports[0].Name = string([]byte{byte(126 + k)}) },
		"a world's name": func(m *api.Module, k int) { m.Imports[1].Mod = strings.Repeat("n", 16+k) },
		"a Min":          func(m *api.Module, k int) { m.Table.Min, m.Table.Max = 16+k, -1 },
		"a Max":          func(m *api.Module, k int) { m.Table.Max = 1000 + k },
		"pages":          func(m *api.Module, k int) { m.Mem.Min, m.Mem.Max = 16+k, -1 },
		"most pages":     func(m *api.Module, k int) { m.Mem.Max = 65536 + k },
		"less than none": func(m *api.Module, k int) { m.Mem.Max = -1 - k },
		"a global":       func(m *api.Module, k int) { m.Globals[0].Init.N = int64(math.MaxInt32 + k) },
		"an Off":         func(m *api.Module, k int) { m.Elems[1].Off = math.MaxInt32 + k },
		"a low Off":      func(m *api.Module, k int) { m.Datas[1].Off = math.MinInt32 - k },
		"an Elem's":      func(m *api.Module, k int) { m.Elems[0].Funcs = make([]int, 50+k) },
		"Bytes":          func(m *api.Module, k int) { m.Datas[0].Bytes = make([]byte, 1000+k) },
		"Locals":         func(m *api.Module, k int) { m.Codes[0].Locals = slices.Repeat([]int{1}, 32+k) },
		"a body":         func(m *api.Module, k int) { m.Codes[0].Body = nops(300 + k) },
		"a nest":         func(m *api.Module, k int) { m.Codes[0].Body = nest(40 + k) },
		"a low number":   func(m *api.Module, k int) { m.Funcs[0] = -k },
		"the Codes":      func(m *api.Module, k int) { m.Codes = append(m.Codes, make([]api.Code, k)...) },
		"8,000 bytes":    func(m *api.Module, k int) { *m = long(8000 + k) },
	} {
		only(t, -1, "just not too much: "+about, func(m *api.Module) { change(m, 0) })
		m := world()
		change(&m, 1)
		if wasm.May(m) {
			t.Errorf("%s: it is a module", about)
		}
		hold(t, m, 0, "just too much: "+about)
	}
}

// TestNumbers holds where the numbers of types and functions that do not exist are no numbers at all.
func TestNumbers(t *testing.T) {
	for _, number := range []int{math.MinInt, math.MinInt32, -1000, -2, -1, 0, 3, 4, 5, 1000, 1001, 1 << 16, 1 << 32, 1<<32 + 1, math.MaxInt} {
		unlike := func(last, wrong int) int {
			switch {
			case number < 0 || number > 1000:
				return 0
			case number > last:
				return wrong
			}
			return -1
		}
		about := "the number " + strconv.Itoa(number)
		m := bare()
		m.Imports[1].Type = number
		hold(t, m, unlike(3, 2), about+" as the type of an import")
		m = bare()
		m.Funcs[2] = number
		hold(t, m, unlike(3, 3), about+" as the type of a function")
		m = bare()
		m.Exports = []api.Export{{Name: "a"}, {Name: "b", Func: number}}
		hold(t, m, unlike(4, 7), about+" as the function of an export")
		m = bare()
		m.Elems = []api.Elem{{}, {Funcs: []int{0, number}}}
		hold(t, m, unlike(4, 9), about+" as a function of an Elem")
	}
}

// long is a module whose encoding has so many bytes.
func long(size int) api.Module {
	m := world()
	for range 7 {
		m.Datas = append(m.Datas, api.Data{Bytes: make([]byte, 1000)})
	}
	m.Datas = append(m.Datas, api.Data{Bytes: make([]byte, 200)})
	last := &m.Datas[len(m.Datas)-1]
	last.Bytes = bytes.Repeat([]byte{'z'}, 200+size-len(wasm.Encode(m)))
	return m
}

// typesOf are so many types.
func typesOf(k int) []api.Type {
	return slices.Repeat([]api.Type{{}}, k)
}

// TestTypesOfImports holds the part 2: each number of types, with each type that exists or not, for the first, a middle and the last import.
func TestTypesOfImports(t *testing.T) {
	for k := range 17 {
		for _, number := range []int{0, 1, k - 1, k, k + 1, 15, 16, 17, 255, 256, 1000} {
			if number < 0 {
				continue
			}
			want := -1
			if number >= k {
				want = 2
			}
			about := "of " + strconv.Itoa(k) + " types the import's is " + strconv.Itoa(number)
			m := api.Module{Types: typesOf(k), Imports: []api.Import{{Mod: "w", Name: "ask", Type: number}}}
			hold(t, m, want, about)
			for place := range 3 {
				if k == 0 {
					break
				}
				m.Imports = slices.Repeat([]api.Import{{Mod: "w", Name: "ask"}}, 3)
				m.Imports[place].Type = number
				hold(t, m, want, about+", at "+strconv.Itoa(place))
			}
		}
	}
	// They are told by their numbers, and may be of equal types, from one world and with one name.
	only(t, -1, "the last type of an import", func(m *api.Module) { m.Imports[1].Type = 3; m.Codes[2].Body = []api.Instr{{Op: localGet}} })
	only(t, 2, "a type of an import beyond the last", func(m *api.Module) { m.Imports[1].Type = 4; m.Codes[2].Body = []api.Instr{{Op: localGet}} })
	only(t, 2, "a type of the first import far beyond the last", func(m *api.Module) { m.Imports[0].Type = 1000 })
	only(t, -1, "one import twice", func(m *api.Module) { m.Imports[0].Name, m.Imports[0].Type = "tell", 0 })
}

// TestTypesOfFuncs holds the part 3 in the same way.
func TestTypesOfFuncs(t *testing.T) {
	for k := range 17 {
		for _, number := range []int{0, 1, k - 1, k, k + 1, 15, 16, 17, 255, 256, 1000} {
			if number < 0 {
				continue
			}
			want := -1
			if number >= k {
				want = 3
			}
			about := "of " + strconv.Itoa(k) + " types the function's is " + strconv.Itoa(number)
			hold(t, api.Module{Types: typesOf(k), Funcs: []int{number}, Codes: make([]api.Code, 1)}, want, about)
			for place := range 3 {
				if k == 0 {
					break
				}
				funcs := make([]int, 3)
				funcs[place] = number
				hold(t, api.Module{Types: typesOf(k), Funcs: funcs, Codes: make([]api.Code, 3)}, want, about+", at "+strconv.Itoa(place))
			}
		}
	}
	// It stays 3 though the body of such a function is not valid either.
	m := world()
	m.Funcs[2] = 4
	hold(t, m, 3, "a type of the last function beyond the last")
	m.Codes[2].Body = nil
	hold(t, m, 3, "such a type, and an empty body")
	m.Types = append(m.Types, api.Type{})
	hold(t, m, -1, "the same type, which exists")
	m.Types[4].Results = []int{api.I32}
	hold(t, m, 10, "the same type, which the body does not fit")
}

// TestLimits holds the parts 4 and 5: each Min, with each Max around it, alone and beside the other one.
func TestLimits(t *testing.T) {
	for low := range 17 {
		for high := -1; high < 40; high++ {
			limits := api.Limits{Has: true, Min: low, Max: high}
			good := high == -1 || high >= low
			about := " from " + strconv.Itoa(low) + " to " + strconv.Itoa(high)
			wantTable, wantMem := 4, 5
			if good {
				wantTable, wantMem = -1, -1
			}
			hold(t, api.Module{Table: limits}, wantTable, "a table"+about)
			hold(t, api.Module{Mem: limits}, wantMem, "a memory"+about)
			hold(t, api.Module{Table: limits, Mem: limits}, wantTable, "a table and a memory"+about)
			only(t, wantTable, "a table"+about+" in the world", func(m *api.Module) { m.Table = limits })
			only(t, wantMem, "a memory"+about+" in the world", func(m *api.Module) { m.Mem = limits })
		}
	}
	for _, x := range []struct{ low, high int }{{16, 1000}, {0, 1000}, {0, 0}, {16, 16}, {16, -1}, {0, -1}} {
		only(t, -1, "a table", func(m *api.Module) { m.Table.Min, m.Table.Max = x.low, x.high })
		only(t, -1, "a memory", func(m *api.Module) { m.Mem.Min, m.Mem.Max = x.low, x.high })
	}
	only(t, -1, "the greatest memory", func(m *api.Module) { m.Mem.Max = 65536 })
	// Limits of what is not there are a matter of the form.
	m := bare()
	m.Table, m.Mem = api.Limits{}, api.Limits{}
	hold(t, m, -1, "neither table nor memory")
	m.Table = api.Limits{Min: 1}
	hold(t, m, 0, "a Min of no table")
	m.Table = api.Limits{Max: -1}
	hold(t, m, 0, "a Max of no table")
	m.Table, m.Mem = api.Limits{}, api.Limits{Min: 1}
	hold(t, m, 0, "a Min of no memory")
}

// TestFunctionsOfExports holds the functions of the part 7, with and without imports.
func TestFunctionsOfExports(t *testing.T) {
	eachFunction(t, 7, func(m *api.Module, number, place int) {
		m.Exports = []api.Export{{Name: "a"}, {Name: "b"}, {Name: "c"}}
		m.Exports[place].Func = number
	})
	only(t, -1, "one function exported often", func(m *api.Module) {
		m.Exports = nil
		for k := range 16 {
			m.Exports = append(m.Exports, api.Export{Name: strconv.Itoa(k), Func: 4})
		}
	})
	for place := range 3 {
		only(t, -1, "an export of the last function", func(m *api.Module) { m.Exports[place].Func = 4 })
		only(t, 7, "an export beyond the last function", func(m *api.Module) { m.Exports[place].Func = 5 })
	}
}

// eachFunction lays the number of a function at each of three places, with all numbers of imports and functions. Where there is no
// such function, that part is wrong.
func eachFunction(t *testing.T, wrong int, lay func(m *api.Module, number, place int)) {
	t.Helper()
	for imports := range 17 {
		for funcs := range 17 - imports {
			sum := imports + funcs
			for _, number := range []int{0, imports - 1, imports, funcs - 1, funcs, sum - 1, sum, sum + 1, 15, 16, 17, 1000} {
				if number < 0 {
					continue
				}
				want := -1
				if number >= sum {
					want = wrong
				}
				for place := range 3 {
					m := api.Module{
						Types:   typesOf(1),
						Imports: slices.Repeat([]api.Import{{Mod: "w", Name: "ask"}}, imports),
						Funcs:   make([]int, funcs),
						Codes:   make([]api.Code, funcs),
						Table:   api.Limits{Has: true, Max: -1},
					}
					lay(&m, number, place)
					hold(t, m, want, strconv.Itoa(imports)+" imports, "+strconv.Itoa(funcs)+" functions, and the number "+strconv.Itoa(number)+" at "+strconv.Itoa(place))
				}
			}
		}
	}
}

// named is a module that exports a function by each of these names.
func named(names ...string) api.Module {
	m := bare()
	for k, name := range names {
		m.Exports = append(m.Exports, api.Export{Name: name, Func: k % 5})
	}
	return m
}

// TestNamesOfExports holds the names of the part 7.
func TestNamesOfExports(t *testing.T) {
	for count := 1; count <= 16; count++ {
		names := strings.Split("abcdefghijklmnop", "")[:count]
		hold(t, named(names...), -1, "so many names: "+strconv.Itoa(count))
		for low := range count {
			for high := low + 1; high < count; high++ {
				twice := slices.Clone(names)
				twice[high] = twice[low]
				hold(t, named(twice...), 7, "a name twice, of "+strconv.Itoa(count)+", at "+strconv.Itoa(low)+" and "+strconv.Itoa(high))
			}
		}
		if count > 1 {
			hold(t, named(slices.Repeat([]string{"f"}, count)...), 7, "one name alone, often: "+strconv.Itoa(count))
		}
	}
	whole := strings.Repeat("~", 16)
	hold(t, named(whole, whole), 7, "a long name twice")
	hold(t, named(whole, "f", "g", whole), 7, "a long name twice, apart")
	for size := 1; size <= 16; size++ {
		hold(t, named(whole[:size], whole[:size]), 7, "a name twice, of so many bytes: "+strconv.Itoa(size))
		if size < 16 {
			hold(t, named(whole, whole[:size]), -1, "names of different lengths: "+strconv.Itoa(size))
			hold(t, named(whole[:size], whole[:size]+" "), -1, "names that differ by a space behind them: "+strconv.Itoa(size))
			hold(t, named(whole[:size], " "+whole[:size]), -1, "names that differ by a space ahead of them: "+strconv.Itoa(size))
		}
		for place := range size {
			other := []byte(whole[:size])
			for _, b := range []byte{'}', ' ', '^', 'A'} {
				other[place] = b
				hold(t, named(whole[:size], string(other)), -1, "names that differ in one byte, "+string(other))
				hold(t, named(string(other), "f", whole[:size]), -1, "names that differ in one byte, apart, "+string(other))
				hold(t, named(string(other), "f", string(other)), 7, "a name twice, apart, "+string(other))
			}
		}
	}
	hold(t, named("f", "F"), -1, "small and great letters")
	hold(t, named("1", "01", "1 "), -1, "names of one number")
	hold(t, named("ab", "ba"), -1, "two bytes in another order")
	// One function by one name twice is wrong as well; the names of the world's are others.
	m := named("f", "g", "f")
	for k := range m.Exports {
		m.Exports[k].Func = 1
	}
	hold(t, m, 7, "the same export twice")
	hold(t, named("w", "ask", "tell"), -1, "the names of imports")
}

// TestElems holds the part 9.
func TestElems(t *testing.T) {
	eachFunction(t, 9, func(m *api.Module, number, place int) {
		m.Elems = []api.Elem{{Funcs: make([]int, 3)}}
		m.Elems[0].Funcs[place] = number
	})
	eachFunction(t, 9, func(m *api.Module, number, place int) {
		m.Elems = make([]api.Elem, 3)
		m.Elems[place].Funcs = []int{number}
	})
	for _, funcs := range [][]int{nil, {}, {0}, {4}, {1, 0, 1}} {
		for _, count := range []int{1, 2, 16} {
			m := bare()
			m.Elems = slices.Repeat([]api.Elem{{Off: 3, Funcs: funcs}}, count)
			hold(t, m, -1, "Elems with a table")
			m.Table = api.Limits{}
			hold(t, m, 9, "Elems without a table")
			m.Elems = m.Elems[:0]
			hold(t, m, -1, "no Elems and no table")
		}
	}
	// Whether they fit into the table shows only where they are laid into it.
	for _, off := range []int{math.MinInt32, -1, 0, 3, 4, 9, 10, math.MaxInt32} {
		only(t, -1, "an Elem at "+strconv.Itoa(off), func(m *api.Module) { m.Elems[1].Off = off })
	}
	only(t, -1, "more than there are in the table", func(m *api.Module) { m.Elems[1].Funcs = slices.Repeat([]int{4, 1}, 25) })
	only(t, -1, "an empty table", func(m *api.Module) { m.Table = api.Limits{Has: true} })
	only(t, 9, "the last one of many", func(m *api.Module) { m.Elems[1].Funcs = append(slices.Repeat([]int{4, 1}, 24), 4, 5) })
	only(t, 9, "the first one", func(m *api.Module) { m.Elems[0].Funcs[0] = 5 })
	only(t, 9, "far beyond all", func(m *api.Module) { m.Elems[0].Funcs[1] = 1000 })
}

// TestCodes holds the part 10.
func TestCodes(t *testing.T) {
	bad := [][]api.Instr{
		{{Op: drop}}, {{Op: i32Const}, {Op: i32Const}}, {{Op: call, A: 5}}, {{Op: localGet, A: 3}},
		{{Op: i64Const}, {Op: drop}, {Op: i64Const}, {Op: globalSet}}, {{Op: unreachable}, {Op: globalSet, A: 1}}, {{Op: unreachable}, {Op: load, A: 3}},
	}
	for k := range 3 {
		only(t, -1, "the code "+strconv.Itoa(k)+", unreachable", func(m *api.Module) { m.Codes[k].Body = []api.Instr{{Op: unreachable}} })
		for j, body := range bad {
			only(t, 10, "the code "+strconv.Itoa(k)+" with the body "+strconv.Itoa(j), func(m *api.Module) { m.Codes[k].Body = body })
		}
	}
	only(t, -1, "an empty body of the first function", func(m *api.Module) { m.Codes[0].Body = nil })
	only(t, 10, "an empty body of the last function", func(m *api.Module) { m.Codes[2].Body = nil })
	only(t, 10, "more Locals than fit beside the Params", func(m *api.Module) { m.Codes[2].Locals = make32(31) })
	only(t, -1, "as many Locals as fit beside the Params", func(m *api.Module) { m.Codes[2].Locals = make32(30) })
	// Each code has the type of its own function.
	only(t, 10, "two codes in each other's place", func(m *api.Module) { m.Codes[0], m.Codes[1] = m.Codes[1], m.Codes[0] })
	for count := 1; count <= 16; count++ {
		for place := range count {
			m := api.Module{Types: typesOf(1), Funcs: make([]int, count), Codes: make([]api.Code, count)}
			hold(t, m, -1, "so many codes: "+strconv.Itoa(count))
			m.Codes[place].Body = []api.Instr{{Op: drop}}
			hold(t, m, 10, "of "+strconv.Itoa(count)+" codes a bad one at "+strconv.Itoa(place))
		}
	}
	only(t, 10, "call_indirect without a table", func(m *api.Module) { m.Table, m.Elems = api.Limits{}, nil })
	only(t, 10, "a load without a memory", func(m *api.Module) { m.Mem, m.Datas = api.Limits{}, nil })
}

// make32 are so many kinds of I32.
func make32(k int) []int {
	return slices.Repeat([]int{api.I32}, k)
}

// TestDatas holds the part 11.
func TestDatas(t *testing.T) {
	for _, text := range [][]byte{nil, {}, {0}, []byte("abc"), make([]byte, 300)} {
		for _, count := range []int{1, 2, 16} {
			m := bare()
			m.Datas = slices.Repeat([]api.Data{{Off: 3, Bytes: text}}, count)
			hold(t, m, -1, "Datas with a memory")
			m.Mem = api.Limits{}
			hold(t, m, 11, "Datas without a memory")
			m.Datas = m.Datas[:0]
			hold(t, m, -1, "no Datas and no memory")
		}
	}
	// Whether they fit into the memory shows only where they are laid into it.
	for _, off := range []int{math.MinInt32, -1, 0, 511, 512, 768, 769, math.MaxInt32} {
		only(t, -1, "a Data at "+strconv.Itoa(off), func(m *api.Module) { m.Datas[1].Off = off })
	}
	only(t, -1, "an empty memory", func(m *api.Module) { m.Mem = api.Limits{Has: true} })
}
