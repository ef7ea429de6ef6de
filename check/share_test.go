package check_test

import (
	"math"
	"reflect"
	"slices"
	"strings"
	"sync"
	"testing"

	"diapause/api"
	"diapause/check"
	"diapause/wasm"
)

// roomy copies l, and lays spare ones behind it, which are fit to be elements.
func roomy[E any](l []E, spare ...E) []E {
	return slices.Concat(l, slices.Repeat(spare, 40))[:len(l)]
}

// withRoom copies m, so that something is spare behind each of its lists.
func withRoom(m api.Module) api.Module {
	m.Types = roomy(m.Types, api.Type{})
	for k := range m.Types {
		m.Types[k].Params = roomy(m.Types[k].Params, 1, 2)
		m.Types[k].Results = roomy(m.Types[k].Results, 2, 1)
	}
	m.Imports = roomy(m.Imports, api.Import{Mod: "m", Name: "n"})
	m.Funcs = roomy(m.Funcs, 0)
	m.Globals = roomy(m.Globals, api.Global{Mut: true, Init: api.Val{Kind: api.I32}})
	m.Exports = roomy(m.Exports, api.Export{Name: "e"})
	m.Elems = roomy(m.Elems, api.Elem{})
	for k := range m.Elems {
		m.Elems[k].Funcs = roomy(m.Elems[k].Funcs, 3)
	}
	m.Codes = roomy(m.Codes, api.Code{})
	for k := range m.Codes {
		x := &m.Codes[k]
		x.Locals = roomy(x.Locals, 2, 1)
		x.Body = roomy(x.Body, api.Instr{Op: 0x0b}, api.Instr{Op: 0x41})
		for j := range x.Body {
			if x.Body[j].Op == 0x0e {
				x.Body[j].L = roomy(x.Body[j].L, 0, 9)
			}
		}
	}
	m.Datas = roomy(m.Datas, api.Data{})
	for k := range m.Datas {
		m.Datas[k].Bytes = roomy(m.Datas[k].Bytes, 'z')
	}
	return m
}

// copied copies a value, if asked with all that is spare behind its lists, which shows as elements of the copy.
func copied(v reflect.Value, spare bool) reflect.Value {
	made := reflect.New(v.Type()).Elem()
	switch v.Kind() {
	case reflect.Slice:
		all := v
		if spare {
			all = v.Slice3(0, v.Cap(), v.Cap())
		}
		made.Set(reflect.MakeSlice(v.Type(), all.Len(), all.Len()))
		for k := range all.Len() {
			made.Index(k).Set(copied(all.Index(k), spare))
		}
	case reflect.Struct:
		for k := range v.NumField() {
			made.Field(k).Set(copied(v.Field(k), spare))
		}
	default:
		made.Set(v)
	}
	return made
}

func copyOf(m api.Module, spare bool) api.Module {
	return copied(reflect.ValueOf(m), spare).Interface().(api.Module)
}

// ordinary are modules whose first code is valid, or not, in which all that Func looks at is looked at.
func ordinary(t testing.TB) []api.Module {
	t.Helper()
	all := []api.Module{{}, world()}
	for _, s := range []string{
		"", "drop", "local.get,0 drop local.get,3 drop", "local.get,4 drop", "i32.const,1 i64.const,1 call,1", "i64.const,1 i32.const,1 call,3 drop", "i32.const,1 i64.const,1 call,3 drop",
		"i32.const,1 i64.const,1 i32.const,0 call_indirect,5", "call,9", "i32.const,1 global.set,0", "i64.const,1 global.set,1", "i32.const,0 i32.load,2,9 drop", "i32.const,0 i32.load,3,9 drop",
		"block,1 i32.const,1 i32.const,0 br_if,0 end drop", "block,1 block,1 i32.const,1 i32.const,0 br_table,0,1,0 end end drop", "block,2 block,1 i32.const,1 i32.const,0 br_table,0,1,0 end end drop",
		"i32.const,0 if,1 unreachable else i32.const,1 end drop", "i32.const,0 if,1 unreachable end drop", "loop br,0 end", "unreachable select i32.add drop", "i32.const,1", "return",
		strings.Repeat("block ", 40) + strings.Repeat("end ", 40), strings.Repeat("i32.const,1 ", 150) + strings.Repeat("drop ", 150), strings.Repeat("i32.const,1 ", 300),
	} {
		all = append(all, with(t, "12:", "21", s))
	}
	full := with(t, strings.Repeat("1", 16)+":2", strings.Repeat("2", 16), "local.get,31")
	over := with(t, strings.Repeat("1", 16)+":2", strings.Repeat("2", 17), "local.get,31")
	return append(all, full, over, with(t, ":2", "", "i64.const,1 return"), with(t, "1:2", "2", "local.get,1 br,0"))
}

// TestModuleStays holds P0.3: the module stays as it is, with what is spare behind each of its lists.
func TestModuleStays(t *testing.T) {
	for k, m := range ordinary(t) {
		m = withRoom(m)
		want := copyOf(m, true)
		for code := -1; code <= len(m.Codes)+1; code++ {
			check.Func(m, code)
		}
		if !reflect.DeepEqual(copyOf(m, true), want) {
			t.Errorf("P0.3: the module %d changed: %v", k, m)
		}
		// What is spare is no part of the module.
		compare(t, m, "with room")
	}
}

// TestSpareIsNoPart holds that elements behind the end of a list are not there.
func TestSpareIsNoPart(t *testing.T) {
	m := with(t, "1:1", "1", "local.get,0 drop")
	for about, change := range map[string]func(m *api.Module){
		"the body":   func(m *api.Module) { m.Codes[0].Body = append(m.Codes[0].Body, api.Instr{Op: 0x41})[:2] },
		"the locals": func(m *api.Module) { m.Codes[0].Body, m.Codes[0].Locals = body(t, "local.get,1"), []int{1}[:0] },
		"the params": func(m *api.Module) {
			m.Codes[0].Body, m.Types[0].Params, m.Codes[0].Locals = body(t, "local.get,0"), []int{1}[:0], nil
		},
		"the globals": func(m *api.Module) { m.Codes[0].Body, m.Globals = body(t, "global.get,0"), m.Globals[:0] },
		"the types":   func(m *api.Module) { m.Codes[0].Body, m.Types = body(t, "unreachable"), m.Types[:0] },
		"the funcs": func(m *api.Module) {
			m.Codes[0].Body, m.Funcs, m.Codes = body(t, "unreachable call,6"), m.Funcs[:4], m.Codes[:4]
		},
	} {
		changed := with(t, "1:1", "1", "local.get,0 drop")
		change(&changed)
		hold(t, changed, false, "what is spare behind "+about)
	}
	m.Codes = m.Codes[:0]
	if check.Func(m, 0) {
		t.Error("P0.3: Func of a code that is spare")
	}
}

// TestNilAndEmpty holds P0.4.
func TestNilAndEmpty(t *testing.T) {
	for _, text := range []string{"", "i32.const,0 br_table,0", "block end", "drop", "call,0", "global.get,0 drop"} {
		none := with(t, ":", "", text)
		none.Imports, none.Globals, none.Exports, none.Elems, none.Datas = nil, nil, nil, nil, nil
		empty := copyOf(none, false)
		empty.Imports, empty.Globals, empty.Exports, empty.Elems, empty.Datas = []api.Import{}, []api.Global{}, []api.Export{}, []api.Elem{}, []api.Data{}
		empty.Types[0] = api.Type{Params: []int{}, Results: []int{}}
		empty.Codes[0].Locals = []int{}
		if text == "" {
			none.Codes[0].Body, empty.Codes[0].Body = nil, []api.Instr{}
		}
		for k := range empty.Codes[0].Body {
			none.Codes[0].Body[k].L, empty.Codes[0].Body[k].L = nil, []int{}
		}
		want := valid(none, 0)
		hold(t, none, want, "nil lists, "+text)
		hold(t, empty, want, "empty lists, "+text)
	}
}

// TestCallsStandAlone holds P0.5: what was asked before changes no answer, nor does what is asked at the same time of another module.
func TestCallsStandAlone(t *testing.T) {
	all := ordinary(t)
	answers := func() []bool {
		var l []bool
		for _, m := range all {
			for k := range 6 {
				l = append(l, check.Func(m, k))
			}
		}
		return l
	}
	want := answers()
	slices.Reverse(all)
	again := answers()
	slices.Reverse(all)
	if !slices.Equal(answers(), want) {
		t.Error("P0.5: Func answers otherwise after other calls")
	}
	for k := range all {
		if !slices.Equal(again[6*(len(all)-1-k):][:6], want[6*k:][:6]) {
			t.Errorf("P0.5: Func answers otherwise in another order, module %d", k)
		}
	}
	var group sync.WaitGroup
	for range 4 {
		group.Go(func() {
			if !slices.Equal(answers(), want) {
				t.Error("P0.5: Func answers otherwise beside other calls")
			}
		})
	}
	group.Wait()
}

// wrong are changes to the world that make no module of it; those that are called no body leave the first code without one.
func wrong(t testing.TB) map[string]func(*api.Module) {
	t.Helper()
	long := slices.Repeat([]int{1, 2}, 1<<15)
	first := func(l ...api.Instr) func(*api.Module) {
		return func(m *api.Module) { m.Codes[0].Body = l }
	}
	return map[string]func(*api.Module){
		"more Codes":    func(m *api.Module) { m.Funcs = m.Funcs[:1] },
		"no Funcs":      func(m *api.Module) { m.Funcs = nil },
		"fewer Codes":   func(m *api.Module) { m.Codes = m.Codes[:1] },
		"types below 0": func(m *api.Module) { m.Funcs[0], m.Funcs[1], m.Imports[0].Type = -1, math.MinInt, -1 },
		"great types":   func(m *api.Module) { m.Funcs[0], m.Funcs[1], m.Imports[0].Type = math.MaxInt, 1<<32, math.MaxInt },
		"kinds that are none": func(m *api.Module) {
			m.Types[0], m.Codes[0].Locals = api.Type{Params: []int{0, -1, 3, math.MinInt}, Results: []int{-1}}, []int{77}
		},
		"many Params":  func(m *api.Module) { m.Types[0].Params = long },
		"many Results": func(m *api.Module) { m.Types[0].Results, m.Types[3].Results = long, long },
		"many Params to take": func(m *api.Module) {
			m.Types[3].Params, m.Codes[0].Body = long, body(t, "unreachable call,0 call,0 call,0")
		},
		"many Locals":                            func(m *api.Module) { m.Codes[0].Locals = long },
		"many Types":                             func(m *api.Module) { m.Types = append(m.Types, make([]api.Type, 1<<16)...) },
		"many Globals":                           func(m *api.Module) { m.Globals = make([]api.Global, 1<<16) },
		"many Imports":                           func(m *api.Module) { m.Imports = make([]api.Import, 1<<16) },
		"globals of no kind":                     func(m *api.Module) { m.Globals[0].Init, m.Codes[0].Body = api.Val{}, body(t, "global.get,0 drop") },
		"no body: calls beyond all":              first(api.Instr{Op: 0x10, A: math.MinInt64}, api.Instr{Op: 0x10, A: -1}, api.Instr{Op: 0x10, A: math.MaxInt64}, api.Instr{Op: 0x11, A: -1}, api.Instr{Op: 0x11, A: math.MinInt64}, api.Instr{Op: 0x11, A: math.MaxInt64}),
		"no body: locals beyond all":             first(api.Instr{Op: 0x20, A: -1}, api.Instr{Op: 0x21, A: math.MinInt64}, api.Instr{Op: 0x22, A: math.MaxInt64}),
		"no body: globals beyond all":            first(api.Instr{Op: 0x23, A: -1}, api.Instr{Op: 0x24, A: math.MinInt64}, api.Instr{Op: 0x24, A: math.MaxInt64}),
		"no body: labels beyond all":             first(api.Instr{Op: 0x0c, A: -1}, api.Instr{Op: 0x0d, A: math.MinInt64}, api.Instr{Op: 0x0c, A: math.MaxInt64}, api.Instr{Op: 0x0e, A: -1, L: []int{math.MinInt, math.MaxInt, -1, 1}}),
		"a long table":                           first(api.Instr{Op: 0x41}, api.Instr{Op: 0x0e, L: make([]int, 1<<20)}),
		"alignments":                             first(api.Instr{Op: 0x41}, api.Instr{Op: 0x28, A: math.MaxInt64, B: -1}, api.Instr{Op: 0x29, A: math.MinInt64, B: math.MaxInt64}),
		"results of no kind":                     first(api.Instr{Op: 0x02, A: -1}, api.Instr{Op: 0x0b}, api.Instr{Op: 0x03, A: math.MaxInt64}, api.Instr{Op: 0x0b}, api.Instr{Op: 0x02, A: math.MinInt64}, api.Instr{Op: 0x0b}),
		"no body: opcodes that are none":         first(api.Instr{Op: -1}, api.Instr{Op: 0x06}, api.Instr{Op: 0x100}, api.Instr{Op: math.MinInt}, api.Instr{Op: math.MaxInt}),
		"operands where none may be":             first(api.Instr{Op: 0x01, A: -1, B: -1, L: []int{1}}, api.Instr{Op: 0x0b, A: 5}),
		"no body: an opcode that is none":        first(api.Instr{Op: 0x06}, api.Instr{Op: 0x1a}),
		"no body: an opcode that is not reached": first(api.Instr{Op: 0x00}, api.Instr{Op: 0x44}, api.Instr{Op: 0x00}),
		"no body: an end":                        first(api.Instr{Op: 0x0b}),
		"no body: ends":                          first(slices.Repeat([]api.Instr{{Op: 0x0b}}, 300)...),
		"no body: an else":                       first(api.Instr{Op: 0x05}),
		"no body: an else of a block":            first(api.Instr{Op: 0x02}, api.Instr{Op: 0x05}, api.Instr{Op: 0x0b}),
		"no body: two elses":                     first(api.Instr{Op: 0x41}, api.Instr{Op: 0x04}, api.Instr{Op: 0x05}, api.Instr{Op: 0x05}, api.Instr{Op: 0x0b}),
		"no body: a block without end":           first(api.Instr{Op: 0x02}),
		"no body: ifs without end":               first(slices.Repeat([]api.Instr{{Op: 0x00}, {Op: 0x04}}, 150)...),
		"no body: too deep a nest":               first(append(slices.Repeat([]api.Instr{{Op: 0x02}}, 41), slices.Repeat([]api.Instr{{Op: 0x0b}}, 41)...)...),
		"no body: 301 instructions":              first(slices.Repeat([]api.Instr{{Op: 0x01}}, 301)...),
		"no body: many instructions":             first(slices.Repeat([]api.Instr{{Op: 0x02}, {Op: 0x05}, {Op: 0x0b}}, 1<<18)...),
	}
}

// TestOfNoModule holds P0.1: whatever Func is asked about, it ends, does not panic, and changes nothing.
func TestOfNoModule(t *testing.T) {
	for about, change := range wrong(t) {
		m := world()
		change(&m)
		if wasm.May(m) {
			t.Fatalf("%s: it is a module", about)
		}
		for _, k := range []int{math.MinInt, -1, 0, 1, 2, 3, 4, 5, math.MaxInt} {
			got := check.Func(m, k)
			if got && k == 0 && strings.HasPrefix(about, "no body: ") {
				t.Errorf("P8.1: Func, %s: it is valid", about)
			}
			if got && (k < 0 || k >= len(m.Codes) || k >= len(m.Funcs)) {
				t.Errorf("P8.1: Func %d, %s: there is no such code, but it is valid", k, about)
			}
		}
	}
}

// TestEveryOpcode holds P0.1 for each opcode and the numbers beside them, with all operands, of modules and of what is none.
func TestEveryOpcode(t *testing.T) {
	for op := -2; op < 260; op++ {
		for _, a := range []int64{-1, 0, 1, 2, 3, 4, 8, 1000, 1001, math.MinInt64, math.MaxInt64} {
			for _, before := range []string{"", "i32.const,1", "i64.const,1 i32.const,1", "unreachable", "unreachable i64.const,1", "i32.const,1 i32.const,1 i32.const,1"} {
				m := with(t, "12:1", "21", before)
				m.Codes[0].Body = append(m.Codes[0].Body, api.Instr{Op: op, A: a})
				if wasm.May(m) {
					compare(t, m, "an opcode behind "+before)
				} else {
					check.Func(m, 0)
				}
			}
		}
	}
}
