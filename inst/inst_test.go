package inst_test

import (
	"bytes"
	"math"
	"slices"
	"strconv"
	"strings"
	"testing"

	"diapause/api"
	"diapause/inst"
)

func TestExample(t *testing.T) {
	of := func(off int, fs ...int) api.Module {
		m := two(4, 1)
		m.Elems = []api.Elem{{Off: off, Funcs: fs}}
		return m
	}
	hold(t, of(3, 0, 1), api.ErrRange, "two functions at 3")
	hold(t, of(-1, 0, 1), api.ErrRange, "two functions at -1")
	hold(t, of(2, 0, 1), api.OK, "two functions at 2")
	hold(t, of(4), api.OK, "no functions at 4")
	hold(t, of(5), api.ErrRange, "no functions at 5")
}

// TestWorld holds what is written here by hand of a module that has several of everything.
func TestWorld(t *testing.T) {
	x := hold(t, world(), api.OK, "several of everything")
	if got := x.Space().Elems(); !slices.Equal(got, []int{-1, 0, 2, 4}) {
		t.Errorf("P12.1: the table: got %v", got)
	}
	if got := x.Space().Globals(); !slices.Equal(got, []api.Val{i32(7), i64(-9), i64(math.MinInt64)}) {
		t.Errorf("P12.1: the globals: got %v", got)
	}
	want := make([]byte, 512)
	copy(want[3:], "abc")
	copy(want[254:], "wxyz")
	if got := content(x.Mem()); !bytes.Equal(got, want) {
		t.Errorf("P12.1: the memory: got %x", got)
	}
	for f, want := range map[int]string{-1: "none", 0: "1>1 import", 1: "> import", 2: ">1", 3: "21>2", 4: ">", 5: "none"} {
		if got := told(x, f); got != want {
			t.Errorf("P12.1: Type and Import of %d: got %s, want %s", f, got, want)
		}
	}
	for name, want := range map[string]int{"seven": 2, "first": 3, "ask": 0, "sev": 4, "tell": -1, "se": -1, "": -1, "world": -1} {
		got, ok := x.Export(name)
		if ok != (want >= 0) || got != max(want, 0) {
			t.Errorf("P12.1: Export(%q): got %d, %t, want %d", name, got, ok, want)
		}
	}
}

// told writes what Type and Import say of a function.
func told(x *inst.Inst, f int) string {
	typ, ok := x.Type(f)
	var s string
	for _, k := range typ.Params {
		s += strconv.Itoa(k)
	}
	s += ">"
	for _, k := range typ.Results {
		s += strconv.Itoa(k)
	}
	if !ok {
		s = "none"
	}
	if x.Import(f) {
		s += " import"
	}
	return s
}

// TestElems holds where an Elem fits: each Off at both ends of each table, for any number of functions.
func TestElems(t *testing.T) {
	for _, size := range []int{0, 1, 2, 4, 15, 16} {
		for n := range size + 3 {
			for _, off := range []int{math.MinInt32, -size - 1, -n, -2, -1, 0, 1, size - n - 1, size - n, size - n + 1, size - 1, size, size + 1,
				size + 2, 255, 256, 65536, math.MaxInt32 - n, math.MaxInt32} {
				m := two(size, 1)
				m.Elems = []api.Elem{{Off: off, Funcs: slices.Repeat([]int{0, 1}, n)[:n]}}
				want := api.OK
				if off < 0 || off+n > size {
					want = api.ErrRange
				}
				hold(t, m, want, strconv.Itoa(n)+" functions at "+strconv.Itoa(off)+" in a table of "+strconv.Itoa(size))
			}
		}
	}
}

// TestDatas holds the same for the bytes of a Data.
func TestDatas(t *testing.T) {
	for _, pages := range []int{0, 1, 2, 16} {
		size := pages * 256
		for _, n := range []int{0, 1, 2, 3, 255, 256, 257, 511, 512, 513, 1000} {
			for _, off := range []int{math.MinInt32, -size - 1, -n, -2, -1, 0, 1, 255, 256, 257, size - n - 1, size - n, size - n + 1, size - 1, size,
				size + 1, 4096, 65536, math.MaxInt32 - n, math.MaxInt32} {
				m := two(4, pages)
				m.Datas = []api.Data{{Off: off, Bytes: bytes.Repeat([]byte("abcdefg"), n)[:n]}}
				want := api.OK
				if off < 0 || off+n > size {
					want = api.ErrRange
				}
				hold(t, m, want, strconv.Itoa(n)+" bytes at "+strconv.Itoa(off)+" in "+strconv.Itoa(pages)+" pages")
			}
		}
	}
}

// TestOneOfSeveral holds that each of several Elems and Datas must fit, wherever it stands.
func TestOneOfSeveral(t *testing.T) {
	for k := range 6 {
		m := two(4, 1)
		m.Elems = slices.Repeat([]api.Elem{{Off: 1, Funcs: []int{1, 0}}}, 6)
		m.Datas = slices.Repeat([]api.Data{{Off: 9, Bytes: []byte("abc")}}, 6)
		hold(t, m, api.OK, "several that fit")
		m.Elems[k].Off = 3
		hold(t, m, api.ErrRange, "the Elem "+strconv.Itoa(k)+" of several")
		m.Elems[k] = api.Elem{Off: -1}
		hold(t, m, api.ErrRange, "the Elem "+strconv.Itoa(k)+" of several, without functions")
		m.Elems[k] = api.Elem{Off: 4}
		m.Datas[k].Off = 254
		hold(t, m, api.ErrRange, "the Data "+strconv.Itoa(k)+" of several")
		m.Datas[k] = api.Data{Off: 257}
		hold(t, m, api.ErrRange, "the Data "+strconv.Itoa(k)+" of several, without bytes")
		m.Datas[k] = api.Data{Off: 256}
		hold(t, m, api.OK, "several that fit, one of them empty")
	}
}

// TestInOrder holds that Elems and Datas that lie one over the other are written in their order.
func TestInOrder(t *testing.T) {
	m := two(6, 1)
	m.Funcs = append(m.Funcs, 0, 0)
	m.Codes = make([]api.Code, 4)
	m.Elems = []api.Elem{{Off: 1, Funcs: []int{0, 0, 0, 0}}, {Off: 2, Funcs: []int{1, 1}}, {Off: 3, Funcs: []int{2, 3}}, {Off: 2}, {Off: 5, Funcs: []int{3}}}
	m.Datas = []api.Data{{Off: 1, Bytes: []byte("aaaaa")}, {Off: 2, Bytes: []byte("bbb")}, {Off: 4, Bytes: []byte{'c', 0, 'd'}}, {Off: 3}}
	x := hold(t, m, api.OK, "one over the other")
	if got := x.Space().Elems(); !slices.Equal(got, []int{-1, 0, 1, 2, 3, 3}) {
		t.Errorf("P12.1: Elems one over the other: got %v", got)
	}
	if got := x.Mem().Page(0)[:9]; string(got) != "\x00abbc\x00d\x00\x00" {
		t.Errorf("P12.1: Datas one over the other: got %q", got)
	}
	slices.Reverse(m.Elems)
	slices.Reverse(m.Datas)
	x = hold(t, m, api.OK, "one over the other, in the other order")
	if got := x.Space().Elems(); !slices.Equal(got, []int{-1, 0, 0, 0, 0, 3}) {
		t.Errorf("P12.1: Elems in the other order: got %v", got)
	}
	if got := x.Mem().Page(0)[:9]; string(got) != "\x00aaaaa\x64\x00\x00" {
		t.Errorf("P12.1: Datas in the other order: got %q", got)
	}
}

// TestNotValid holds ErrType of a module of which a part is not valid, also where an Elem or a Data does not fit.
func TestNotValid(t *testing.T) {
	for about, change := range map[string]func(m *api.Module){
		"the form":               func(m *api.Module) { m.Globals[0].Init.Kind = 3 },
		"a code too few":         func(m *api.Module) { m.Codes = m.Codes[:2] },
		"an import's type":       func(m *api.Module) { m.Imports[1].Type = 4 },
		"a function's type":      func(m *api.Module) { m.Funcs[1] = 4 },
		"the table":              func(m *api.Module) { m.Table.Max = 3 },
		"the memory":             func(m *api.Module) { m.Mem.Max = 1 },
		"an export's function":   func(m *api.Module) { m.Exports[0].Func = 5 },
		"an export's name":       func(m *api.Module) { m.Exports[0].Name = "first" },
		"Elems without a table":  func(m *api.Module) { m.Table = api.Limits{} },
		"an Elem's function":     func(m *api.Module) { m.Elems[1].Funcs[0] = 5 },
		"a negative function":    func(m *api.Module) { m.Elems[1].Funcs[0] = -1 },
		"a code":                 func(m *api.Module) { m.Codes[0].Body[0].Op = i64Const },
		"Datas without a memory": func(m *api.Module) { m.Mem = api.Limits{} },
		"too many elements":      func(m *api.Module) { m.Table.Min = 17 },
		"too many pages":         func(m *api.Module) { m.Mem.Min, m.Mem.Max = 17, -1 },
		"fewer than no pages":    func(m *api.Module) { m.Mem.Min = -1 },
		"an Elem's Off":          func(m *api.Module) { m.Elems[0].Off = math.MaxInt },
		"a Data's Off":           func(m *api.Module) { m.Datas[0].Off = math.MinInt },
		"a Data's Off, by one":   func(m *api.Module) { m.Datas[1].Off = math.MinInt32 - 1 },
	} {
		m := world()
		change(&m)
		hold(t, m, api.ErrType, about)
		m.Elems = append([]api.Elem{{Off: 4, Funcs: []int{0}}}, m.Elems...)
		hold(t, m, api.ErrType, about+", and an Elem that does not fit")
		m.Datas = append([]api.Data{{Off: -1, Bytes: []byte("a")}}, m.Datas...)
		hold(t, m, api.ErrType, about+", and a Data that does not fit")
	}
	m := world()
	m.Elems[0].Off, m.Datas[0].Off = 4, 512
	hold(t, m, api.ErrRange, "an Elem and a Data that do not fit")
}

// TestParts holds modules with one of their parts alone, and without one of them.
func TestParts(t *testing.T) {
	m := world()
	for about, alone := range map[string]api.Module{
		"nothing":                    {},
		"empty lists":                {Types: []api.Type{}, Imports: []api.Import{}, Elems: []api.Elem{}, Codes: []api.Code{}, Datas: []api.Data{}},
		"Types":                      {Types: m.Types},
		"Imports":                    {Types: m.Types, Imports: m.Imports},
		"Imports, exported":          {Types: m.Types, Imports: m.Imports, Exports: []api.Export{{Name: "a", Func: 1}, {Name: "b", Func: 1}}},
		"Funcs":                      {Types: m.Types, Funcs: m.Funcs, Codes: m.Codes},
		"a table":                    {Table: m.Table},
		"a table of no elements":     {Table: api.Limits{Has: true, Max: -1}},
		"a table of 16":              {Table: api.Limits{Has: true, Min: 16, Max: 1000}},
		"an Elem without functions":  {Table: m.Table, Elems: []api.Elem{{Off: 4}}},
		"a memory":                   {Mem: m.Mem},
		"a memory of no pages":       {Mem: api.Limits{Has: true, Max: -1}},
		"a memory of 16":             {Mem: api.Limits{Has: true, Min: 16, Max: 16}},
		"a memory, and what is laid": {Mem: m.Mem, Datas: m.Datas},
		"globals":                    {Globals: m.Globals},
	} {
		hold(t, alone, api.OK, about+" alone")
	}
	if x := hold(t, api.Module{}, api.OK, "nothing"); !untouched(x.Space(), x.Mem()) {
		t.Errorf("P12.1: of the zero Module: Space: got %v, Mem: got %v", x.Space().Elems(), x.Mem())
	}
	m.Mem, m.Datas = api.Limits{}, nil
	if hold(t, m, api.OK, "no memory").Mem() != nil {
		t.Errorf("P12.1: Mem without a memory")
	}
	m.Table, m.Elems = api.Limits{}, nil
	hold(t, m, api.OK, "neither memory nor table")
	m.Globals, m.Exports = nil, nil
	hold(t, m, api.OK, "functions alone")
}

// TestMany holds a module of as much as there may be, with all its functions, exports, Elems and Datas.
func TestMany(t *testing.T) {
	m := api.Module{Types: slices.Repeat([]api.Type{{}}, 16), Table: api.Limits{Has: true, Min: 16, Max: 16}, Mem: api.Limits{Has: true, Min: 16, Max: 20}}
	for k := range 16 {
		m.Types[k].Params = slices.Repeat([]int{api.I64, api.I32}, k)
		m.Types[k].Results = []int{}
		if k < 7 {
			m.Imports = append(m.Imports, api.Import{Mod: "world", Name: "ask" + strconv.Itoa(k), Type: 15 - k})
		} else {
			m.Funcs = append(m.Funcs, k)
			m.Codes = append(m.Codes, api.Code{Body: []api.Instr{{Op: i32Const, A: int64(k)}, {Op: drop}}})
		}
		m.Globals = append(m.Globals, api.Global{Mut: k%3 == 0, Init: i64(int64(k) << 55)})
		m.Exports = append(m.Exports, api.Export{Name: strings.Repeat("x", k+1), Func: 15 - k})
		m.Elems = append(m.Elems, api.Elem{Off: 15 - k, Funcs: slices.Repeat([]int{k}, k%3+1)[:min(k%3+1, k+1)]})
		m.Datas = append(m.Datas, api.Data{Off: k * 256, Bytes: bytes.Repeat([]byte{byte(k) + 1}, 256)})
	}
	hold(t, m, api.OK, "as much as there may be")
}

// TestUnlike holds that the limits of the memory and of the table are those of the module, and that Mut is not looked at.
func TestUnlike(t *testing.T) {
	x := hold(t, world(), api.OK, "limits")
	if x.Mem().Grow(2) != -1 || x.Mem().Grow(1) != 2 || x.Mem().Grow(1) != -1 {
		t.Errorf("P12.1: Mem: it does not grow to Max and no further")
	}
	if !slices.Equal(x.Mem().Dirty(), []int{2}) {
		t.Errorf("P12.1: Mem: Dirty behind Grow: got %v", x.Mem().Dirty())
	}
	if !x.Space().SetElems(0, []int{4, 3, 2, 1}) || x.Space().SetElems(1, []int{4, 3, 2, 1}) {
		t.Errorf("P12.1: Space: the table is not of four elements")
	}
	if !x.Space().SetGlobal(1, i64(1)) || x.Space().SetGlobal(1, i32(1)) || x.Space().SetGlobal(3, i64(1)) {
		t.Errorf("P12.1: Space: the globals are not the module's")
	}
}

// TestNone holds that a nil instance, and one that New did not make, tells of nothing.
func TestNone(t *testing.T) {
	for about, x := range map[string]*inst.Inst{"nil": nil, "zero": {}} {
		if !eq(x.Module(), api.Module{}) || x.Mem() != nil || x.Space() != nil {
			t.Errorf("P12.1: %s: got %v, %v, %v", about, x.Module(), x.Mem(), x.Space())
		}
		for _, f := range append(strange(), 0, 1, 2) {
			if typ, ok := x.Type(f); ok || typ.Params != nil || typ.Results != nil || x.Import(f) {
				t.Errorf("P12.1: %s: the function %d: got %v, %t", about, f, typ, ok)
			}
		}
		for _, name := range []string{"", "seven", "\x00"} {
			if f, ok := x.Export(name); ok || f != 0 {
				t.Errorf("P12.1: %s: Export(%q): got %d, %t", about, name, f, ok)
			}
		}
	}
}
