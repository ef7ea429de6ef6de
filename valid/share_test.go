package valid_test

import (
	"math"
	"reflect"
	"slices"
	"strings"
	"sync"
	"testing"

	"diapause/api"
	"diapause/valid"
)

// roomy copies l, and lays spare ones behind it.
func roomy[E any](l []E, spare ...E) []E {
	return slices.Concat(l, slices.Repeat(spare, 40))[:len(l)]
}

// withRoom copies m, so that something is spare behind each of its lists that would be a fault if it were a part of it.
func withRoom(m api.Module) api.Module {
	m.Types = roomy(m.Types, api.Type{Params: []int{9}})
	for k := range m.Types {
		m.Types[k].Params = roomy(m.Types[k].Params, 9)
		m.Types[k].Results = roomy(m.Types[k].Results, 9)
	}
	m.Imports = roomy(m.Imports, api.Import{Mod: "w", Name: "ask", Type: 1000})
	m.Funcs = roomy(m.Funcs, 1000)
	m.Globals = roomy(m.Globals, api.Global{})
	m.Exports = roomy(m.Exports, api.Export{Name: "run", Func: 1000})
	m.Elems = roomy(m.Elems, api.Elem{Funcs: []int{1000}})
	for k := range m.Elems {
		m.Elems[k].Funcs = roomy(m.Elems[k].Funcs, 1000)
	}
	m.Codes = roomy(m.Codes, api.Code{Body: []api.Instr{{Op: drop}}})
	for k := range m.Codes {
		m.Codes[k].Locals = roomy(m.Codes[k].Locals, 9)
		m.Codes[k].Body = roomy(m.Codes[k].Body, api.Instr{Op: drop})
		for j := range m.Codes[k].Body {
			if x := &m.Codes[k].Body[j]; x.Op == table {
				x.L = roomy(x.L, 1000)
			}
		}
	}
	m.Datas = roomy(m.Datas, api.Data{Off: math.MaxInt})
	for k := range m.Datas {
		m.Datas[k].Bytes = roomy(m.Datas[k].Bytes, 'z')
	}
	return m
}

// copied copies a value, with all that is spare behind its lists, which shows as elements of the copy.
func copied(v reflect.Value) reflect.Value {
	made := reflect.New(v.Type()).Elem()
	switch v.Kind() {
	case reflect.Slice:
		all := v.Slice3(0, v.Cap(), v.Cap())
		made.Set(reflect.MakeSlice(v.Type(), all.Len(), all.Len()))
		for k := range all.Len() {
			made.Index(k).Set(copied(all.Index(k)))
		}
	case reflect.Struct:
		for k := range v.NumField() {
			made.Field(k).Set(copied(v.Field(k)))
		}
	default:
		made.Set(v)
	}
	return made
}

func copyOf(m api.Module) api.Module {
	return copied(reflect.ValueOf(m)).Interface().(api.Module)
}

// ordinary are valid modules, and one or more with each fault.
func ordinary() []api.Module {
	branching := world()
	branching.Codes[0].Body = []api.Instr{{Op: block}, {Op: i32Const}, {Op: table, L: []int{0, 1, 0}, A: 1}, {Op: end}}
	all := []api.Module{{}, world(), bare(), idle(), long(8000), long(8001), branching}
	for _, start := range []func() api.Module{world, idle} {
		for _, w := range wrongs() {
			m := start()
			w.change(&m)
			all = append(all, m)
		}
	}
	return all
}

// TestModuleStays holds P0.3: the module stays as it is, with what is spare behind each of its lists, and that is no part of it.
func TestModuleStays(t *testing.T) {
	for k, plain := range ordinary() {
		m := withRoom(plain)
		want := copyOf(m)
		got, ok := valid.Module(m)
		if !reflect.DeepEqual(copyOf(m), want) {
			t.Errorf("P0.3: the module %d changed: %v", k, m)
		}
		if first, firstOk := valid.Module(plain); got != first || ok != firstOk {
			t.Errorf("P0.3: of the module %d with room: got %d, %t; without room %d, %t", k, got, ok, first, firstOk)
		}
		if again, _ := valid.Module(m); again != got {
			t.Errorf("P0.5: of the module %d again: got %d, not %d", k, again, got)
		}
		compare(t, m, "with room")
	}
}

// TestSpareIsNoPart holds that what is behind the end of a list is not there, neither as a fault nor as what is asked for.
func TestSpareIsNoPart(t *testing.T) {
	for _, x := range []struct {
		about string
		want  int
		cut   func(*api.Module)
	}{
		{"the types of imports", 2, func(m *api.Module) { m.Types = m.Types[:1] }},
		{"the types of functions", 3, func(m *api.Module) { m.Types = m.Types[:3] }},
		{"the functions of exports", 7, func(m *api.Module) { m.Funcs, m.Codes = m.Funcs[:1], m.Codes[:1] }},
		{"the functions of an Elem", 9, func(m *api.Module) { m.Exports, m.Funcs, m.Codes = m.Exports[:2], m.Funcs[:1], m.Codes[:1] }},
		{"a body", 10, func(m *api.Module) { m.Codes[1].Body = m.Codes[1].Body[:0] }},
		{"the Elems", -1, func(m *api.Module) { m.Table, m.Elems, m.Codes = api.Limits{}, m.Elems[:0], bare().Codes }},
		{"the Datas", -1, func(m *api.Module) { m.Mem, m.Datas, m.Codes = api.Limits{}, m.Datas[:0], bare().Codes }},
		{"a name", -1, func(m *api.Module) { m.Exports[2].Name = "run"; m.Exports = m.Exports[:2] }},
		{"a bad code", -1, func(m *api.Module) {
			*m = idle()
			m.Exports, m.Elems = nil, nil
			m.Codes[2].Body = nil
			m.Funcs, m.Codes = m.Funcs[:2], m.Codes[:2]
		}},
	} {
		m := world()
		x.cut(&m)
		hold(t, m, x.want, "what is spare behind "+x.about)
	}
}

// TestNilAndEmpty holds P0.4.
func TestNilAndEmpty(t *testing.T) {
	empty := api.Module{
		Types: []api.Type{}, Imports: []api.Import{}, Funcs: []int{}, Globals: []api.Global{}, Exports: []api.Export{},
		Elems: []api.Elem{}, Codes: []api.Code{}, Datas: []api.Data{},
	}
	hold(t, empty, -1, "empty lists")
	m := api.Module{
		Types: []api.Type{{Params: []int{}, Results: []int{}}},
		Funcs: []int{0},
		Table: api.Limits{Has: true},
		Mem:   api.Limits{Has: true},
		Elems: []api.Elem{{Funcs: []int{}}, {}},
		Codes: []api.Code{{Locals: []int{}, Body: []api.Instr{}}},
		Datas: []api.Data{{Bytes: []byte{}}, {}},
	}
	hold(t, m, -1, "empty lists within")
	m.Types[0], m.Codes[0] = api.Type{}, api.Code{}
	hold(t, m, -1, "nil lists within")
	m.Table = api.Limits{}
	hold(t, m, 9, "Elems without Funcs, and no table")
	m.Elems, m.Mem = []api.Elem{}, api.Limits{}
	hold(t, m, 11, "no Elems, and Datas without Bytes and no memory")
	m.Datas = []api.Data{}
	hold(t, m, -1, "neither Elems nor Datas")
}

// TestCallsStandAlone holds P0.5: what was asked before changes no answer, nor does what is asked at the same time of another module.
func TestCallsStandAlone(t *testing.T) {
	all := ordinary()
	answers := func() []int {
		var l []int
		for _, m := range all {
			got, _ := valid.Module(m)
			l = append(l, got)
		}
		return l
	}
	want := answers()
	slices.Reverse(all)
	turned := answers()
	slices.Reverse(turned)
	slices.Reverse(all)
	if !slices.Equal(turned, want) || !slices.Equal(answers(), want) {
		t.Error("P0.5: Module answers otherwise after other calls")
	}
	var group sync.WaitGroup
	for range 4 {
		group.Go(func() {
			if !slices.Equal(answers(), want) {
				t.Error("P0.5: Module answers otherwise beside other calls")
			}
		})
	}
	group.Wait()
}

// TestOfNoModule holds P0.1: whatever is asked about, it ends, does not panic, and is wrong by its form.
func TestOfNoModule(t *testing.T) {
	long := slices.Repeat([]int{1, 2}, 1<<15)
	body := func(l ...api.Instr) func(*api.Module) {
		return func(m *api.Module) { m.Codes[0].Body = l }
	}
	for about, change := range map[string]func(*api.Module){
		"very many Types":     func(m *api.Module) { m.Types = make([]api.Type, 1<<16) },
		"very many Imports":   func(m *api.Module) { m.Imports = slices.Repeat(m.Imports, 1<<15) },
		"very many Funcs":     func(m *api.Module) { m.Funcs, m.Codes = make([]int, 1<<16), make([]api.Code, 1<<16) },
		"very many Globals":   func(m *api.Module) { m.Globals = slices.Repeat(m.Globals, 1<<15) },
		"very many Exports":   func(m *api.Module) { m.Exports = slices.Repeat(m.Exports, 1<<15) },
		"very many Elems":     func(m *api.Module) { m.Elems = make([]api.Elem, 1<<16) },
		"very many Codes":     func(m *api.Module) { m.Codes = make([]api.Code, 1<<16) },
		"very many Datas":     func(m *api.Module) { m.Datas = make([]api.Data, 1<<16) },
		"long Params":         func(m *api.Module) { m.Types[0].Params = long },
		"long Results":        func(m *api.Module) { m.Types[0].Results = long },
		"long Locals":         func(m *api.Module) { m.Codes[0].Locals = long },
		"long Funcs":          func(m *api.Module) { m.Elems[0].Funcs = long },
		"long Bytes":          func(m *api.Module) { m.Datas[0].Bytes = make([]byte, 1<<20) },
		"a long name":         func(m *api.Module) { m.Exports[0].Name = strings.Repeat("n", 1<<20) },
		"a name of any bytes": func(m *api.Module) { m.Exports[0].Name = "\x00\xff\xfe" },
		"a long body":         body(slices.Repeat([]api.Instr{{Op: block}}, 1<<16)...),
		"a long table":        body(api.Instr{Op: i32Const}, api.Instr{Op: table, L: make([]int, 1<<16)}),
		"ends":                body(slices.Repeat([]api.Instr{{Op: end}}, 300)...),
		"opcodes of none":     body(api.Instr{Op: -1}, api.Instr{Op: math.MinInt}, api.Instr{Op: math.MaxInt}),
		"labels of none":      body(api.Instr{Op: table, A: -1, L: []int{math.MinInt, math.MaxInt}}),
		"calls of none":       body(api.Instr{Op: call, A: math.MinInt64}),
		"fewer Codes":         func(m *api.Module) { m.Codes = m.Codes[:1] },
		"fewer Funcs":         func(m *api.Module) { m.Funcs = m.Funcs[:1] },
		"no Codes":            func(m *api.Module) { m.Codes = nil },
		"no Funcs":            func(m *api.Module) { m.Funcs = nil },
		"types below 0":       func(m *api.Module) { m.Imports[0].Type, m.Funcs[0] = math.MinInt, -1 },
		"functions below 0":   func(m *api.Module) { m.Exports[0].Func, m.Elems[0].Funcs[0] = -1, math.MinInt },
		"great types":         func(m *api.Module) { m.Imports[0].Type, m.Funcs[0] = math.MaxInt, 1<<32 },
		"great functions":     func(m *api.Module) { m.Exports[0].Func, m.Elems[0].Funcs[0] = 1<<32, math.MaxInt },
		"low limits":          func(m *api.Module) { m.Table.Min, m.Mem.Min = math.MinInt, -1 },
		"great limits":        func(m *api.Module) { m.Table.Max, m.Mem.Max = math.MaxInt, math.MaxInt },
		"limits of nothing":   func(m *api.Module) { m.Table.Has, m.Mem.Has = false, false },
		"great Offs":          func(m *api.Module) { m.Elems[0].Off, m.Datas[0].Off = math.MaxInt, math.MinInt },
	} {
		m := world()
		change(&m)
		hold(t, m, 0, about)
	}
}
