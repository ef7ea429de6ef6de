package wasm_test

import (
	"math"
	"slices"
	"testing"

	"diapause/api"
	"diapause/wasm"
)

// differences change a single part of full each.
func differences() []func(*api.Module) {
	return slices.Concat(headDifferences(), tailDifferences())
}

// headDifferences are those in the first five sections.
func headDifferences() []func(*api.Module) {
	return []func(*api.Module){
		func(m *api.Module) { m.Types = nil },
		func(m *api.Module) { m.Types = m.Types[:1] },
		func(m *api.Module) { m.Types = append(m.Types, api.Type{}) },
		func(m *api.Module) { slices.Reverse(m.Types) },
		func(m *api.Module) { m.Types[0].Params = []int{1} },
		func(m *api.Module) { m.Types[0].Results = []int{1} },
		func(m *api.Module) { m.Types[1].Params[0] = 1 },
		func(m *api.Module) { m.Types[1].Params[1] = 2 },
		func(m *api.Module) { m.Types[1].Params = []int{2} },
		func(m *api.Module) { m.Types[1].Params = []int{2, 1, 1} },
		func(m *api.Module) { m.Types[1].Params = nil },
		func(m *api.Module) { m.Types[1].Results[0] = 1 },
		func(m *api.Module) { m.Types[1].Results = nil },
		func(m *api.Module) { m.Types[1].Results = []int{2, 2} },
		func(m *api.Module) { m.Imports = nil },
		func(m *api.Module) { m.Imports = m.Imports[:1] },
		func(m *api.Module) { m.Imports = append(m.Imports, m.Imports[0]) },
		func(m *api.Module) { slices.Reverse(m.Imports) },
		func(m *api.Module) { m.Imports[0].Mod = "W" },
		func(m *api.Module) { m.Imports[0].Mod = "wa" },
		func(m *api.Module) { m.Imports[0].Mod = "" },
		func(m *api.Module) { m.Imports[0].Name = "asks" },
		func(m *api.Module) { m.Imports[0].Mod, m.Imports[0].Name = "wa", "sk" },
		func(m *api.Module) { m.Imports[0].Mod, m.Imports[0].Name = "ask", "w" },
		func(m *api.Module) { m.Imports[0].Type = 0 },
		func(m *api.Module) { m.Imports[0].Type = 257 },
		func(m *api.Module) { m.Imports[1].Type = 999 },
		func(m *api.Module) { m.Imports[1].Mod = "~" },
		func(m *api.Module) { m.Imports[1].Name = "\xff" },
		func(m *api.Module) { m.Funcs = nil },
		func(m *api.Module) { m.Funcs = m.Funcs[:1] },
		func(m *api.Module) { m.Funcs = append(m.Funcs, 0) },
		func(m *api.Module) { m.Funcs[0] = 1 },
		func(m *api.Module) { m.Funcs[1] = 300 - 256 },
		func(m *api.Module) { slices.Reverse(m.Funcs) },
		func(m *api.Module) { m.Table.Has = false },
		func(m *api.Module) { m.Table.Min = 5 },
		func(m *api.Module) { m.Table.Max = 0 },
		func(m *api.Module) { m.Table.Max = -2 },
		func(m *api.Module) { m.Table = api.Limits{} },
		func(m *api.Module) { m.Mem.Has = false },
		func(m *api.Module) { m.Mem.Min = 0 },
		func(m *api.Module) { m.Mem.Max = -1 },
		func(m *api.Module) { m.Mem.Max = 301 },
		func(m *api.Module) { m.Mem = api.Limits{} },
		func(m *api.Module) { m.Table, m.Mem = m.Mem, m.Table },
	}
}

// tailDifferences are those in the other five.
func tailDifferences() []func(*api.Module) {
	return []func(*api.Module){
		func(m *api.Module) { m.Globals = nil },
		func(m *api.Module) { m.Globals = m.Globals[1:] },
		func(m *api.Module) { m.Globals = append(m.Globals, m.Globals[0]) },
		func(m *api.Module) { slices.Reverse(m.Globals) },
		func(m *api.Module) { m.Globals[0].Mut = false },
		func(m *api.Module) { m.Globals[1].Mut = true },
		func(m *api.Module) { m.Globals[0].Init.Kind = api.I64 },
		func(m *api.Module) { m.Globals[0].Init.Kind = 0 },
		func(m *api.Module) { m.Globals[0].Init.N = -64 },
		func(m *api.Module) { m.Globals[1].Init.N = math.MinInt64 + 1 },
		func(m *api.Module) { m.Globals[1].Init.N = 0 },
		func(m *api.Module) { m.Exports = nil },
		func(m *api.Module) { m.Exports = m.Exports[:1] },
		func(m *api.Module) { m.Exports = append(m.Exports, m.Exports[1]) },
		func(m *api.Module) { slices.Reverse(m.Exports) },
		func(m *api.Module) { m.Exports[0].Name = "F" },
		func(m *api.Module) { m.Exports[1].Name = "go  on" },
		func(m *api.Module) { m.Exports[0].Func = 3 },
		func(m *api.Module) { m.Exports[1].Func = 0 },
		func(m *api.Module) { m.Elems = nil },
		func(m *api.Module) { m.Elems = m.Elems[:1] },
		func(m *api.Module) { m.Elems = append(m.Elems, api.Elem{}) },
		func(m *api.Module) { slices.Reverse(m.Elems) },
		func(m *api.Module) { m.Elems[0].Off = 65 },
		func(m *api.Module) { m.Elems[1].Off = 7 + 1<<32 },
		func(m *api.Module) { m.Elems[0].Funcs[0] = 1 },
		func(m *api.Module) { m.Elems[0].Funcs[1] = 201 },
		func(m *api.Module) { m.Elems[0].Funcs = []int{0} },
		func(m *api.Module) { m.Elems[1].Funcs = []int{0} },
		func(m *api.Module) { m.Codes = nil },
		func(m *api.Module) { m.Codes = m.Codes[:1] },
		func(m *api.Module) { m.Codes = append(m.Codes, api.Code{}) },
		func(m *api.Module) { slices.Reverse(m.Codes) },
		func(m *api.Module) { m.Codes[0].Locals = nil },
		func(m *api.Module) { m.Codes[0].Locals = []int{1, 1, 2} },
		func(m *api.Module) { m.Codes[0].Locals = []int{1, 2, 1} },
		func(m *api.Module) { m.Codes[0].Locals[3] = 2 },
		func(m *api.Module) { m.Codes[1].Locals = []int{1} },
		func(m *api.Module) { m.Codes[0].Body = nil },
		func(m *api.Module) { m.Codes[0].Body = m.Codes[0].Body[:6] },
		func(m *api.Module) { m.Codes[0].Body[0].Op = 0x42 },
		func(m *api.Module) { m.Codes[0].Body[0].A = 6 },
		func(m *api.Module) { m.Codes[0].Body[0].B = 1 },
		func(m *api.Module) { m.Codes[0].Body[6].Op = 0x1b },
		func(m *api.Module) { m.Codes[0].Body[4].L[1] = 999 },
		func(m *api.Module) { m.Codes[0].Body[4].L = []int{0} },
		func(m *api.Module) { m.Codes[0].Body[4].L = nil },
		func(m *api.Module) { m.Codes[0].Body[4].A = 4 },
		func(m *api.Module) { m.Codes[1].Body = []api.Instr{{Op: 0x01}} },
		func(m *api.Module) { m.Datas = nil },
		func(m *api.Module) { m.Datas = m.Datas[:1] },
		func(m *api.Module) { m.Datas = append(m.Datas, api.Data{}) },
		func(m *api.Module) { slices.Reverse(m.Datas) },
		func(m *api.Module) { m.Datas[0].Off = -3 },
		func(m *api.Module) { m.Datas[1].Off = 0 },
		func(m *api.Module) { m.Datas[0].Bytes[0] = 'A' },
		func(m *api.Module) { m.Datas[0].Bytes[2] = 0 },
		func(m *api.Module) { m.Datas[0].Bytes = []byte("ab") },
		func(m *api.Module) { m.Datas[0].Bytes = []byte("ab\x0b\x00") },
		func(m *api.Module) { m.Datas[1].Bytes = []byte{0} },
	}
}

func TestEq(t *testing.T) {
	if !wasm.Eq(api.Module{}, api.Module{}) || !wasm.Eq(full(), full()) || !wasm.Eq(greatest(), greatest()) {
		t.Error("P7.1: Eq of what is the same")
	}
	if wasm.Eq(api.Module{}, full()) || wasm.Eq(full(), api.Module{}) || wasm.Eq(full(), greatest()) {
		t.Error("P7.1: Eq of what is quite different")
	}
	for a, m := range alone() {
		for b, x := range alone() {
			if got := wasm.Eq(m, x); got != (a == b) {
				t.Errorf("P7.1: Eq of %s alone and %s alone: got %t", a, b, got)
			}
		}
	}
}

func TestEqOfEverySinglePart(t *testing.T) {
	var all []api.Module
	for k, change := range differences() {
		m := full()
		change(&m)
		if wasm.Eq(m, full()) || wasm.Eq(full(), m) {
			t.Errorf("P7.1: Eq with the difference %d", k)
		}
		if !wasm.Eq(m, copyOf(m, false)) {
			t.Errorf("P7.1: Eq of two modules with the same difference %d", k)
		}
		all = append(all, m)
	}
	for k, a := range all {
		for j, b := range all {
			if got, want := wasm.Eq(a, b), same(a, b); got != want {
				t.Errorf("P7.1: Eq with the differences %d and %d: got %t, want %t", k, j, got, want)
			}
		}
	}
}

// hollow is full without anything in its inner lists, which are nil or empty.
func hollow(isNil bool) api.Module {
	list := func() []int {
		if isNil {
			return nil
		}
		return []int{}
	}
	m := api.Module{Types: []api.Type{{Params: list(), Results: list()}}, Elems: []api.Elem{{Funcs: list()}}, Funcs: list()}
	m.Codes = []api.Code{{Locals: list(), Body: []api.Instr{{Op: 0x0e, L: list()}}}, {Body: nil}}
	m.Datas = []api.Data{{Bytes: nil}}
	if !isNil {
		m.Imports, m.Globals, m.Exports = []api.Import{}, []api.Global{}, []api.Export{}
		m.Codes[1].Body = []api.Instr{}
		m.Datas[0].Bytes = []byte{}
	}
	return m
}

// TestNilAndEmpty holds P0.4.
func TestNilAndEmpty(t *testing.T) {
	empty := api.Module{
		Types: []api.Type{}, Imports: []api.Import{}, Funcs: []int{}, Globals: []api.Global{}, Exports: []api.Export{},
		Elems: []api.Elem{}, Codes: []api.Code{}, Datas: []api.Data{},
	}
	if !wasm.Eq(empty, api.Module{}) || !wasm.Eq(api.Module{}, empty) || !wasm.May(empty) || string(wasm.Encode(empty)) != string(wasm.Encode(api.Module{})) {
		t.Error("P0.4: a module of empty lists")
	}
	compareModule(t, empty, "empty lists")
	if !wasm.Eq(hollow(true), hollow(false)) || !wasm.Eq(hollow(false), hollow(true)) {
		t.Error("P0.4: Eq of empty inner lists")
	}
	for _, isNil := range []bool{true, false} {
		m := hollow(isNil)
		compareModule(t, m, "two Codes without Funcs")
		m.Funcs = []int{0, 0}
		if !wasm.May(m) {
			t.Error("P0.4: May of empty inner lists")
		}
		compareModule(t, m, "empty inner lists")
	}
	for _, b := range [][]byte{nil, {}, make([]byte, 0, 9)} {
		if m, err := wasm.Decode(b); !same(m, api.Module{}) || err != api.ErrForm {
			t.Errorf("P0.4: Decode of no bytes: got %v, %d", m, err)
		}
	}
}
