package space_test

import (
	"math"
	"slices"
	"testing"

	"diapause/api"
	"diapause/space"
)

// element is one of a table.
type element struct {
	holds bool
	f     int
}

// plain are a table and globals as the chapter tells them: each element that exists, and each global, by its index.
type plain struct {
	elems   map[int]element
	globals map[int]api.Val
}

func newPlain(m api.Module) *plain {
	p := &plain{elems: map[int]element{}, globals: map[int]api.Val{}}
	for i := 0; m.Table.Has && i < m.Table.Min; i++ {
		p.elems[i] = element{}
	}
	for i, g := range m.Globals {
		p.globals[i] = g.Init
	}
	return p
}

// elem asks for an element whose index may be of any size: each index that exists is held against it.
func (p *plain) elem(i int64) (int, bool) {
	for k, e := range p.elems {
		if int64(k) == i && e.holds {
			return e.f, true
		}
	}
	return 0, false
}

func (p *plain) setElems(off int, fs []int) bool {
	if len(fs) == 0 {
		return 0 <= off && off <= len(p.elems)
	}
	for k := range fs {
		// Behind the greatest index there is none, though this sum goes round: a negative one is none.
		if _, ok := p.elems[off+k]; !ok {
			return false
		}
	}
	for k, f := range fs {
		// An element that is set to -1 is one that Elems tells as empty.
		p.elems[off+k] = element{f != -1, f}
		if f == -1 {
			p.elems[off+k] = element{}
		}
	}
	return true
}

func (p *plain) list() []int {
	var l []int
	for i := range len(p.elems) {
		if e := p.elems[i]; e.holds {
			l = append(l, e.f)
		} else {
			l = append(l, -1)
		}
	}
	return l
}

func (p *plain) global(i int) (api.Val, bool) {
	v, ok := p.globals[i]
	return v, ok
}

func (p *plain) setGlobal(i int, v api.Val) bool {
	was, ok := p.globals[i]
	if !ok || was.Kind != v.Kind {
		return false
	}
	p.globals[i] = v
	return true
}

func (p *plain) values() []api.Val {
	var l []api.Val
	for i := range len(p.globals) {
		l = append(l, p.globals[i])
	}
	return l
}

// both are a Space and its plain copy: each call goes to both, and both must then be the same in all that can be asked.
type both struct {
	t     *testing.T
	about string
	s     *space.Space
	p     *plain
}

func newBoth(t *testing.T, m api.Module, about string) *both {
	t.Helper()
	d := &both{t, about, space.New(m), newPlain(m)}
	if d.s == nil {
		t.Fatalf("P11.1: %s: New: nil", about)
	}
	d.same("New")
	return d
}

// strange are indices of which there are no elements and no globals, but for a table of a great size.
func strange() []int {
	return []int{math.MinInt, math.MinInt + 1, math.MinInt32, -1 << 32, -1<<32 + 1, -256, -17, -16, -2, -1, 1 << 31, 1 << 32, 1<<32 + 1,
		1 << 40, 1 << 56, 1<<56 + 1, 1 << 62, math.MaxInt - 17, math.MaxInt - 16, math.MaxInt - 1, math.MaxInt}
}

// same holds all that can be asked of the Space against the plain copy.
func (d *both) same(call string) {
	d.t.Helper()
	if got, want := d.s.Elems(), d.p.list(); !slices.Equal(got, want) {
		d.t.Errorf("P11.1: %s: after %s: Elems: got %v, want %v", d.about, call, got, want)
	}
	if got, want := d.s.Globals(), d.p.values(); !slices.Equal(got, want) {
		d.t.Errorf("P11.1: %s: after %s: Globals: got %v, want %v", d.about, call, got, want)
	}
	for i := range len(d.p.elems) + 3 {
		d.elem(int64(i))
	}
	for i := range len(d.p.globals) + 3 {
		d.global(i)
	}
	for _, i := range []int{math.MinInt, -1, 1 << 32, math.MaxInt} {
		d.elem(int64(i))
		d.global(i)
	}
}

func (d *both) elem(i int64) {
	d.t.Helper()
	got, ok := d.s.Elem(i)
	if want, wantOk := d.p.elem(i); got != want || ok != wantOk {
		d.t.Errorf("P11.1: %s: Elem(%d): got %d, %t, want %d, %t", d.about, i, got, ok, want, wantOk)
	}
}

func (d *both) setElems(off int, fs ...int) bool {
	d.t.Helper()
	got, want := d.s.SetElems(off, fs), d.p.setElems(off, fs)
	if got != want {
		d.t.Errorf("P11.1: %s: SetElems(%d, %v): got %t, want %t", d.about, off, fs, got, want)
	}
	d.same("SetElems")
	return want
}

func (d *both) global(i int) {
	d.t.Helper()
	got, ok := d.s.Global(i)
	if want, wantOk := d.p.global(i); got != want || ok != wantOk {
		d.t.Errorf("P11.1: %s: Global(%d): got %v, %t, want %v, %t", d.about, i, got, ok, want, wantOk)
	}
}

func (d *both) setGlobal(i int, v api.Val) bool {
	d.t.Helper()
	got, want := d.s.SetGlobal(i, v), d.p.setGlobal(i, v)
	if got != want {
		d.t.Errorf("P11.1: %s: SetGlobal(%d, %v): got %t, want %t", d.about, i, v, got, want)
	}
	d.same("SetGlobal")
	return want
}

// of makes a module with so many elements, and with globals of these values, each second one of which may be set by a program.
func of(elems int, values ...api.Val) api.Module {
	m := api.Module{Table: api.Limits{Has: true, Min: elems, Max: -1}}
	for k, v := range values {
		m.Globals = append(m.Globals, api.Global{Mut: k%2 == 1, Init: v})
	}
	return m
}

func i32(n int64) api.Val { return api.Val{Kind: api.I32, N: n} }

func i64(n int64) api.Val { return api.Val{Kind: api.I64, N: n} }

// several are globals of both kinds, with the least and the greatest values.
func several() []api.Val {
	return []api.Val{i32(5), i64(6), i32(0), i64(math.MinInt64), i32(math.MaxInt32), i32(math.MinInt32), i64(math.MaxInt64), i64(-1)}
}
