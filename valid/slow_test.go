package valid_test

import (
	"slices"
	"testing"

	"diapause/api"
	"diapause/check"
	"diapause/valid"
	"diapause/wasm"
)

// The opcodes of the bodies here.
const (
	unreachable = 0x00
	nop         = 0x01
	block       = 0x02
	end         = 0x0b
	table       = 0x0e
	call        = 0x10
	indirect    = 0x11
	drop        = 0x1a
	localGet    = 0x20
	globalSet   = 0x24
	load        = 0x28
	i32Const    = 0x41
	i64Const    = 0x42
)

// numbers are those of all parts that may not be valid, in order.
var numbers = []int{0, 2, 3, 4, 5, 7, 9, 10, 11}

// part is one of those that may not be valid, with what tells that it isn't.
type part struct {
	number int
	unfit  func(api.Module) bool
}

// parts go by the chapter line by line, each one for itself. Whatever exists is counted out one by one.
var parts = []part{
	// In no order, so that none of these hangs on what comes ahead of it.
	{11, func(m api.Module) bool { return len(m.Datas) > 0 && !m.Mem.Has }},
	{5, func(m api.Module) bool { return m.Mem.Max != -1 && m.Mem.Max < m.Mem.Min }},
	{4, func(m api.Module) bool { return m.Table.Max != -1 && m.Table.Max < m.Table.Min }},
	{0, func(m api.Module) bool { return !wasm.May(m) }},
	{2, func(m api.Module) bool {
		return slices.ContainsFunc(m.Imports, func(x api.Import) bool { return !slices.Contains(types(m), x.Type) })
	}},
	{3, func(m api.Module) bool {
		return slices.ContainsFunc(m.Funcs, func(number int) bool { return !slices.Contains(types(m), number) })
	}},
	{7, func(m api.Module) bool {
		for k, x := range m.Exports {
			for j, y := range m.Exports {
				if j != k && x.Name == y.Name || !slices.Contains(functions(m), x.Func) {
					return true
				}
			}
		}
		return false
	}},
	{9, func(m api.Module) bool {
		for _, x := range m.Elems {
			for _, number := range x.Funcs {
				if !slices.Contains(functions(m), number) {
					return true
				}
			}
		}
		return len(m.Elems) > 0 && !m.Table.Has
	}},
	{10, func(m api.Module) bool {
		for k := range m.Codes {
			if !check.Func(m, k) {
				return true
			}
		}
		return false
	}},
}

// types are the numbers of the types that exist.
func types(m api.Module) []int {
	var all []int
	for k := range m.Types {
		all = append(all, k)
	}
	return all
}

// functions are the numbers of the functions that exist.
func functions(m api.Module) []int {
	var all []int
	for range m.Imports {
		all = append(all, len(all))
	}
	for range m.Funcs {
		all = append(all, len(all))
	}
	return all
}

// faults are the numbers of all parts that are not valid, in order.
func faults(m api.Module) []int {
	var all []int
	for _, p := range parts {
		if p.unfit(m) {
			all = append(all, p.number)
		}
	}
	slices.Sort(all)
	return all
}

// slow is Module, the slow way.
func slow(m api.Module) (int, bool) {
	all := faults(m)
	if len(all) == 0 {
		return -1, true
	}
	return all[0], false
}

// hold holds Module against what it must answer: a number, or -1 if m is valid.
func hold(t *testing.T, m api.Module, want int, about string) {
	t.Helper()
	if got, ok := valid.Module(m); got != want || ok != (want == -1) {
		t.Errorf("P9.1: Module, %s: got %d, %t; want %d", about, got, ok, want)
	}
	compare(t, m, about)
}

// compare holds Module against the slow way.
func compare(t *testing.T, m api.Module, about string) {
	t.Helper()
	got, ok := valid.Module(m)
	if want, wantOk := slow(m); got != want || ok != wantOk {
		t.Errorf("P9.1: Module, %s: got %d, %t; the slow way %d, %t", about, got, ok, want, wantOk)
	}
}

// only holds the world with one change, which leaves it valid or makes no other fault than this one.
func only(t *testing.T, want int, about string, change func(*api.Module)) {
	t.Helper()
	m := world()
	change(&m)
	all := faults(m)
	if want == -1 && len(all) > 0 || want != -1 && !slices.Equal(all, []int{want}) {
		t.Errorf("%s: it has the faults %v, not %d alone", about, all, want)
	}
	hold(t, m, want, about)
}

// world is a valid module that has two of everything at least; of the types, the first one is that of an empty body.
func world() api.Module {
	return api.Module{
		Types:   []api.Type{{}, {Results: []int{api.I32}}, {Params: []int{api.I32}, Results: []int{api.I32}}, {Params: []int{api.I64, api.I32}, Results: []int{api.I64}}},
		Imports: []api.Import{{Mod: "w", Name: "ask", Type: 2}, {Mod: "w", Name: "tell", Type: 0}},
		Funcs:   []int{0, 1, 3},
		Table:   api.Limits{Has: true, Min: 4, Max: 9},
		Mem:     api.Limits{Has: true, Min: 2, Max: 3},
		Globals: []api.Global{{Mut: true, Init: api.Val{Kind: api.I32, N: 7}}, {Init: api.Val{Kind: api.I64, N: -9}}},
		Exports: []api.Export{{Name: "run", Func: 2}, {Name: "ask", Func: 0}, {Name: "seven", Func: 3}},
		Elems:   []api.Elem{{Off: 1, Funcs: []int{0, 4}}, {Off: 2, Funcs: []int{2, 1, 3}}},
		Codes: []api.Code{
			{Body: []api.Instr{{Op: i32Const, A: 5}, {Op: i32Const, A: 1}, {Op: indirect, A: 2}, {Op: drop}}},
			{Locals: []int{api.I64}, Body: []api.Instr{{Op: i32Const, A: 4}, {Op: load, A: 2}}},
			{Locals: []int{api.I32}, Body: []api.Instr{{Op: i32Const, A: 1}, {Op: globalSet}, {Op: call, A: 1}, {Op: localGet}}},
		},
		Datas: []api.Data{{Off: 3, Bytes: []byte("abc")}, {Off: 9, Bytes: []byte{0}}},
	}
}

// bare is the world without all that makes use of its other parts: its functions do nothing but trap.
func bare() api.Module {
	m := world()
	m.Elems, m.Datas, m.Exports = nil, nil, nil
	for k := range m.Codes {
		m.Codes[k] = api.Code{Body: []api.Instr{{Op: unreachable}}}
	}
	return m
}
