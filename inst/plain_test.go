package inst_test

import (
	"bytes"
	"math"
	"reflect"
	"slices"
	"strings"
	"testing"

	"diapause/api"
	"diapause/inst"
	"diapause/mem"
	"diapause/space"
	"diapause/valid"
)

// The opcodes in the bodies of these tests.
const (
	block    = 0x02
	end      = 0x0b
	br       = 0x0c
	brTable  = 0x0e
	call     = 0x10
	drop     = 0x1a
	localGet = 0x20
	i32Const = 0x41
	i64Const = 0x42
)

// world is a valid module that has several of everything: the functions 0 and 1 are imports, 2 to 4 its own.
func world() api.Module {
	return api.Module{
		Types: []api.Type{{}, {Results: []int{api.I32}}, {Params: []int{api.I32}, Results: []int{api.I32}},
			{Params: []int{api.I64, api.I32}, Results: []int{api.I64}}},
		Imports: []api.Import{{Mod: "world", Name: "ask", Type: 2}, {Mod: "world", Name: "tell", Type: 0}},
		Funcs:   []int{1, 3, 0},
		Table:   api.Limits{Has: true, Min: 4, Max: -1},
		Mem:     api.Limits{Has: true, Min: 2, Max: 3},
		Globals: []api.Global{{Mut: true, Init: i32(7)}, {Init: i64(-9)}, {Mut: true, Init: i64(math.MinInt64)}},
		Exports: []api.Export{{Name: "seven", Func: 2}, {Name: "first", Func: 3}, {Name: "ask", Func: 0}, {Name: "sev", Func: 4}},
		Elems:   []api.Elem{{Off: 1, Funcs: []int{0, 2}}, {Off: 3, Funcs: []int{4}}},
		Codes: []api.Code{
			{Body: []api.Instr{{Op: i32Const, A: 7}}},
			{Locals: []int{api.I32, api.I64}, Body: []api.Instr{{Op: localGet}}},
			{Body: []api.Instr{{Op: block}, {Op: i32Const}, {Op: brTable, L: []int{0, 1, 0}, A: 1}, {Op: end}}},
		},
		Datas: []api.Data{{Off: 3, Bytes: []byte("abc")}, {Off: 254, Bytes: []byte("wxyz")}},
	}
}

// two is a valid module of a table of so many elements, so many pages, and two functions.
func two(elements, pages int) api.Module {
	return api.Module{
		Types: []api.Type{{}},
		Funcs: []int{0, 0},
		Table: api.Limits{Has: true, Min: elements, Max: -1},
		Mem:   api.Limits{Has: true, Min: pages, Max: -1},
		Codes: make([]api.Code, 2),
	}
}

func i32(n int64) api.Val { return api.Val{Kind: api.I32, N: n} }

func i64(n int64) api.Val { return api.Val{Kind: api.I64, N: n} }

// cell is an element of a table, or a byte of a memory.
type cell struct {
	there bool
	n     int
}

// plain is an instance as the chapter tells it: each element and each byte by its place.
type plain struct {
	m     api.Module
	elems map[int]cell
	bytes map[int]cell
}

// lay writes ns from off on, and tells whether all these places are there; for none, whether off is one, or the end.
func lay(places map[int]cell, off int, ns []int) bool {
	if _, ok := places[off]; len(ns) == 0 {
		return ok || off == len(places)
	}
	for k := range ns {
		if _, ok := places[off+k]; !ok {
			return false
		}
	}
	for k, n := range ns {
		places[off+k] = cell{true, n}
	}
	return true
}

func newPlain(m api.Module) (*plain, api.Errno) {
	if _, ok := valid.Module(m); !ok {
		return nil, api.ErrType
	}
	p := &plain{m: m, elems: map[int]cell{}, bytes: map[int]cell{}}
	for i := range m.Table.Min {
		p.elems[i] = cell{}
	}
	for i := range m.Mem.Min * 256 {
		p.bytes[i] = cell{}
	}
	for _, e := range m.Elems {
		if !lay(p.elems, e.Off, e.Funcs) {
			return nil, api.ErrRange
		}
	}
	for _, d := range m.Datas {
		var ns []int
		for _, b := range d.Bytes {
			ns = append(ns, int(b))
		}
		if !lay(p.bytes, d.Off, ns) {
			return nil, api.ErrRange
		}
	}
	return p, api.OK
}

// table lists the elements as Elems of the chapter 11 does.
func (p *plain) table() []int {
	var l []int
	for i := range len(p.elems) {
		if c := p.elems[i]; c.there {
			l = append(l, c.n)
		} else {
			l = append(l, -1)
		}
	}
	return l
}

func (p *plain) memory() []byte {
	var l []byte
	for i := range len(p.bytes) {
		l = append(l, byte(p.bytes[i].n))
	}
	return l
}

func (p *plain) globals() []api.Val {
	var l []api.Val
	for _, g := range p.m.Globals {
		l = append(l, g.Init)
	}
	return l
}

// types lists the numbers of the types of all functions.
func (p *plain) types() []int {
	var l []int
	for _, i := range p.m.Imports {
		l = append(l, i.Type)
	}
	return append(l, p.m.Funcs...)
}

// content lists all bytes of a memory.
func content(m *mem.Mem) []byte {
	var l []byte
	for i := range m.Pages() {
		l = append(l, m.Page(i)...)
	}
	return l
}

// strange are numbers that no function has.
func strange() []int {
	return []int{math.MinInt, math.MinInt + 1, math.MinInt32, -1 << 32, -257, -256, -17, -3, -2, -1, 16, 17, 256, 1 << 31, 1 << 32,
		1<<32 + 1, 1 << 62, math.MaxInt - 1, math.MaxInt}
}

// hold makes an instance, and holds all that can be asked of it against the plain one.
func hold(t *testing.T, m api.Module, want api.Errno, about string) *inst.Inst {
	t.Helper()
	x, err := inst.New(m)
	p, ruled := newPlain(m)
	if ruled != want {
		t.Fatalf("%s: the test itself: got %d, want %d", about, ruled, want)
	}
	if err != want || (x != nil) != (err == api.OK) {
		t.Fatalf("P12.1: %s: New: got %v, %d, want %d", about, x != nil, err, want)
	}
	if x == nil {
		return nil
	}
	same(t, x, p, about)
	return x
}

// same holds an instance that was not changed against the plain one.
func same(t *testing.T, x *inst.Inst, p *plain, about string) {
	t.Helper()
	if !eq(x.Module(), p.m) {
		t.Errorf("P12.1: %s: Module: got %v, want %v", about, x.Module(), p.m)
	}
	if !slices.Equal(x.Space().Elems(), p.table()) || !slices.Equal(x.Space().Globals(), p.globals()) {
		t.Errorf("P12.1: %s: Space: got %v, %v, want %v, %v", about, x.Space().Elems(), x.Space().Globals(), p.table(), p.globals())
	}
	if (x.Mem() != nil) != p.m.Mem.Has {
		t.Errorf("P12.1: %s: Mem: got %v", about, x.Mem())
	}
	if !bytes.Equal(content(x.Mem()), p.memory()) || len(x.Mem().Dirty()) != 0 {
		t.Errorf("P12.1: %s: Mem: got %x, touched %v, want %x", about, content(x.Mem()), x.Mem().Dirty(), p.memory())
	}
	sameFuncs(t, x, p, about)
	sameExports(t, x, p, about)
}

// sameFuncs asks for the functions that are there, and for those that are not.
func sameFuncs(t *testing.T, x *inst.Inst, p *plain, about string) {
	t.Helper()
	numbers := p.types()
	for f := range 20 {
		var want api.Type
		if f < len(numbers) {
			want = p.m.Types[numbers[f]]
		}
		got, ok := x.Type(f)
		if ok != (f < len(numbers)) || !slices.Equal(got.Params, want.Params) || !slices.Equal(got.Results, want.Results) {
			t.Errorf("P12.1: %s: Type(%d): got %v, %t, want %v", about, f, got, ok, want)
		}
		if got, want := x.Import(f), f < len(p.m.Imports); got != want {
			t.Errorf("P12.1: %s: Import(%d): got %t, want %t", about, f, got, want)
		}
	}
	for _, f := range strange() {
		typ, ok := x.Type(f)
		if ok || typ.Params != nil || typ.Results != nil || x.Import(f) {
			t.Errorf("P12.1: %s: the function %d: Type: got %v, %t; Import: got %t", about, f, typ, ok, x.Import(f))
		}
	}
}

// sameExports asks for all names in the module, for some beside them, and for none.
func sameExports(t *testing.T, x *inst.Inst, p *plain, about string) {
	t.Helper()
	names := []string{"", "none", " ", strings.Repeat("x", 1000)}
	want := map[string]int{}
	for _, e := range p.m.Exports {
		want[e.Name] = e.Func
		names = append(names, e.Name, e.Name+"x", e.Name+"\x00", e.Name[1:], e.Name[:len(e.Name)-1], strings.ToUpper(e.Name))
	}
	for _, i := range p.m.Imports {
		names = append(names, i.Mod, i.Name, i.Mod+i.Name, i.Mod+"."+i.Name)
	}
	for _, name := range names {
		got, ok := x.Export(name)
		if wantF, wantOk := want[name]; got != wantF || ok != wantOk {
			t.Errorf("P12.1: %s: Export(%q): got %d, %t, want %d, %t", about, name, got, ok, wantF, wantOk)
		}
	}
}

// eq tells whether two values are the same, where nil and empty lists are (P0.4).
func eq(a, b api.Module) bool {
	return reflect.DeepEqual(full(reflect.ValueOf(a)).Interface(), full(reflect.ValueOf(b)).Interface())
}

// full copies a value, with an empty list for each that is nil.
func full(v reflect.Value) reflect.Value {
	made := reflect.New(v.Type()).Elem()
	switch v.Kind() {
	case reflect.Slice:
		made.Set(reflect.MakeSlice(v.Type(), v.Len(), v.Len()))
		for k := range v.Len() {
			made.Index(k).Set(full(v.Index(k)))
		}
	case reflect.Struct:
		for k := range v.NumField() {
			made.Field(k).Set(full(v.Field(k)))
		}
	default:
		made.Set(v)
	}
	return made
}

// untouched tells whether a Space and a memory are those of nothing.
func untouched(s *space.Space, m *mem.Mem) bool {
	return s != nil && m == nil && len(s.Elems()) == 0 && len(s.Globals()) == 0
}
