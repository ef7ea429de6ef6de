package space_test

import (
	"math"
	"slices"
	"testing"

	"diapause/api"
	"diapause/space"
)

// TestExample goes through the chapter's example.
func TestExample(t *testing.T) {
	s := space.New(of(4))
	for _, x := range []struct {
		off  int
		fs   []int
		want bool
	}{{1, []int{7, 0}, true}, {3, []int{1, 2}, false}, {4, nil, true}, {5, nil, false}} {
		if got := s.SetElems(x.off, x.fs); got != x.want {
			t.Errorf("P11.1: SetElems(%d, %v): got %t, want %t", x.off, x.fs, got, x.want)
		}
	}
	if got := s.Elems(); !slices.Equal(got, []int{-1, 7, 0, -1}) {
		t.Errorf("P11.1: Elems: got %v", got)
	}
}

// TestNewTable holds how many elements there are, all of them empty.
func TestNewTable(t *testing.T) {
	for _, least := range []int{0, 1, 2, 3, 4, 15, 16, 17, 100, 1000} {
		for _, most := range []int{math.MinInt, -2, -1, 0, 1, least - 1, least, least + 1, 1000, math.MaxInt} {
			m := api.Module{Table: api.Limits{Has: true, Min: least, Max: most}}
			if got := space.New(m).Elems(); !slices.Equal(got, slices.Repeat([]int{-1}, least)) {
				t.Errorf("P11.1: New of the Min %d and the Max %d: Elems %v", least, most, got)
			}
		}
		newBoth(t, of(least), "a new table")
	}
}

// TestNewWithoutTable holds that there is no element without Has, whatever the other fields are, nor with a Min below 0.
func TestNewWithoutTable(t *testing.T) {
	for _, l := range []api.Limits{
		{}, {Max: -1}, {Max: 16}, {Min: 4}, {Min: 4, Max: -1}, {Min: 16, Max: 16}, {Min: -1}, {Min: math.MaxInt, Max: math.MaxInt}, {Min: math.MinInt},
		{Has: true}, {Has: true, Min: -1, Max: -1}, {Has: true, Min: -16, Max: 16}, {Has: true, Min: math.MinInt, Max: -1}, {Has: true, Min: math.MinInt + 1},
	} {
		s := space.New(api.Module{Table: l})
		if got := s.Elems(); len(got) != 0 {
			t.Errorf("P11.1: New of %v: Elems %v", l, got)
		}
		for _, i := range append(strange(), 0, 1, 3, 4) {
			f, ok := s.Elem(int64(i))
			set := s.SetElems(i, []int{2})
			if none := s.SetElems(i, nil); f != 0 || ok || set || none != (i == 0) {
				t.Errorf("P11.1: of %v: at %d: Elem %d, %t, SetElems of one %t, of none %t", l, i, f, ok, set, none)
			}
		}
	}
}

// TestNewFar holds P0.1 for tables that are too long to be listed: they need no room for elements that are empty.
func TestNewFar(t *testing.T) {
	for _, size := range []int{1 << 31, 1 << 32, 1<<32 + 1, 1 << 40, 1 << 48, 1 << 60, 1 << 61, 1 << 62, math.MaxInt - 1, math.MaxInt} {
		s := space.New(of(size))
		for _, x := range []struct {
			off  int
			fs   []int
			want bool
		}{
			{0, []int{5, 0}, true}, {size - 1, []int{8}, true}, {size - 3, []int{9, 0}, true}, {size, nil, true},
			{size - 1, []int{1, 2}, false}, {size, []int{1}, false}, {-1, []int{1, 2}, false}, {math.MinInt, []int{1}, false}, {-1, nil, false},
		} {
			if got := s.SetElems(x.off, x.fs); got != x.want {
				t.Errorf("P11.1: of %d elements: SetElems(%d, %v): got %t", size, x.off, x.fs, got)
			}
		}
		if size < math.MaxInt && s.SetElems(size+1, nil) {
			t.Errorf("P11.1: of %d elements: SetElems of none at the next: true", size)
		}
		for i, want := range map[int]element{
			0: {true, 5}, 1: {true, 0}, 2: {}, size / 2: {}, size - 4: {}, size - 3: {true, 9}, size - 2: {true, 0}, size - 1: {true, 8}, -1: {}, math.MinInt: {},
		} {
			if f, ok := s.Elem(int64(i)); f != want.f || ok != want.holds {
				t.Errorf("P11.1: of %d elements: Elem(%d): got %d, %t, want %d, %t", size, i, f, ok, want.f, want.holds)
			}
		}
		if got := s.Elems(); got != nil {
			t.Errorf("P11.1: of %d elements: Elems: got %d of them", size, len(got))
		}
	}
}

func TestNewGlobals(t *testing.T) {
	for k := range 9 {
		newBoth(t, of(0, several()[:k]...), "new globals")
		newBoth(t, of(16, several()[8-k:]...), "new globals")
	}
	d := newBoth(t, of(2, append(several(), append(several(), i32(3))...)...), "many globals")
	if got := d.s.Globals(); len(got) != 17 {
		t.Errorf("P11.1: New of 17 globals: got %v", got)
	}
	newBoth(t, of(1, api.Val{}, api.Val{Kind: 3, N: 4}, api.Val{Kind: math.MinInt, N: 1}, i32(math.MaxInt64)), "globals that are not valid")
}

// TestNewOfAll holds that nothing of a module but its table's Has and Min and its globals' Init counts.
func TestNewOfAll(t *testing.T) {
	m := of(3, i32(1), i64(2))
	m.Types = []api.Type{{Params: []int{api.I32}}}
	m.Imports = []api.Import{{Mod: "w", Name: "ask"}}
	m.Funcs = []int{0}
	m.Mem = api.Limits{Has: true, Min: 9, Max: 9}
	m.Exports = []api.Export{{Name: "run", Func: 1}}
	m.Elems = []api.Elem{{Off: 1, Funcs: []int{1, 0}}}
	m.Codes = []api.Code{{}}
	m.Datas = []api.Data{{Off: 2, Bytes: []byte("abc")}}
	newBoth(t, m, "a whole module")
}

// TestElem holds which element is which, and that one which holds function 0 is not empty.
func TestElem(t *testing.T) {
	s := space.New(of(16))
	s.SetElems(1, []int{7, 0, 3})
	s.SetElems(15, []int{0})
	for _, x := range []struct {
		i    int64
		want int
		ok   bool
	}{
		{0, 0, false}, {1, 7, true}, {2, 0, true}, {3, 3, true}, {4, 0, false}, {14, 0, false}, {15, 0, true}, {16, 0, false}, {17, 0, false},
		{-1, 0, false}, {-2, 0, false}, {-15, 0, false}, {-16, 0, false}, {math.MaxInt64, 0, false}, {math.MinInt64, 0, false},
		{math.MinInt64 + 1, 0, false}, {1<<32 + 1, 0, false}, {-1<<32 + 1, 0, false}, {1<<31 + 1, 0, false}, {1<<32 - 1, 0, false}, {1<<56 + 1, 0, false},
	} {
		if f, ok := s.Elem(x.i); f != x.want || ok != x.ok {
			t.Errorf("P11.1: Elem(%d): got %d, %t, want %d, %t", x.i, f, ok, x.want, x.ok)
		}
	}
}

// TestSetElems holds SetElems of each number of functions, at each place, of tables that are empty and of full ones.
func TestSetElems(t *testing.T) {
	fs := []int{4, 0, 9, 1, 1000, 2, math.MaxInt, 3, 0, 5, 6, 7, 8, 9, 15, 11, 12, 13, 14}
	for _, size := range []int{0, 1, 2, 5, 16} {
		places := strange()
		for off := -2; off <= size+2; off++ {
			places = append(places, off)
		}
		for _, off := range places {
			for n := range min(size+3, len(fs)) {
				newBoth(t, of(size, i32(1)), "an empty table").setElems(off, fs[:n]...)
				d := newBoth(t, of(size, i32(1)), "a full table")
				d.setElems(0, fs[19-size:]...)
				d.setElems(off, fs[:n]...)
			}
		}
	}
}

// TestSetElemsEnds holds which elements exist, at the first and the last one and beyond by one.
func TestSetElemsEnds(t *testing.T) {
	for _, x := range []struct {
		size, off int
		fs        []int
		want      bool
	}{
		{0, 0, nil, true}, {0, 1, nil, false}, {0, -1, nil, false}, {0, 0, []int{1}, false}, {0, -1, []int{1}, false},
		{1, 0, nil, true}, {1, 1, nil, true}, {1, 2, nil, false}, {1, 0, []int{1}, true}, {1, 1, []int{1}, false}, {1, 0, []int{1, 2}, false},
		{1, -1, []int{1}, false}, {1, -1, []int{1, 2}, false},
		{4, 0, []int{1}, true}, {4, 3, []int{1}, true}, {4, 4, []int{1}, false}, {4, 5, []int{1}, false}, {4, -1, []int{1}, false},
		{4, 0, []int{1, 2, 3, 4}, true}, {4, 0, []int{1, 2, 3, 4, 5}, false}, {4, 1, []int{1, 2, 3}, true}, {4, 1, []int{1, 2, 3, 4}, false},
		{4, 2, []int{1, 2}, true}, {4, 3, []int{1, 2}, false}, {4, -1, []int{1, 2}, false}, {4, -4, []int{1, 2, 3, 4, 5}, false},
		{4, 0, []int{}, true}, {4, 4, []int{}, true}, {4, 5, []int{}, false}, {4, -1, []int{}, false},
		{16, 16, nil, true}, {16, 17, nil, false}, {16, 15, []int{0}, true}, {16, 16, []int{0}, false},
		{16, math.MaxInt, nil, false}, {16, math.MinInt, nil, false}, {16, math.MaxInt, []int{1}, false}, {16, math.MinInt, []int{1}, false},
		{16, math.MaxInt - 1, []int{1, 2, 3}, false}, {16, math.MaxInt, []int{1, 2, 3}, false}, {16, 1 << 32, []int{1}, false},
	} {
		d := newBoth(t, of(x.size), "the ends")
		if got := d.setElems(x.off, x.fs...); got != x.want {
			t.Errorf("P11.1: of %d elements: SetElems(%d, %v): want %t, not %t", x.size, x.off, x.fs, x.want, got)
		}
	}
}

// TestSetElemsOver holds what is left of functions that others are laid over.
func TestSetElemsOver(t *testing.T) {
	d := newBoth(t, of(6, i64(2)), "one over the other")
	for _, x := range []struct {
		off  int
		fs   []int
		want []int
	}{
		{1, []int{1, 2, 3}, []int{-1, 1, 2, 3, -1, -1}},
		{2, []int{0, 5}, []int{-1, 1, 0, 5, -1, -1}},
		{3, []int{4, 4, 4}, []int{-1, 1, 0, 4, 4, 4}},
		{4, []int{9, 9, 9}, []int{-1, 1, 0, 4, 4, 4}},
		{-1, []int{9, 9}, []int{-1, 1, 0, 4, 4, 4}},
		{6, nil, []int{-1, 1, 0, 4, 4, 4}},
		{0, []int{0, 0, 0, 0, 0, 0}, []int{0, 0, 0, 0, 0, 0}},
		{0, []int{9, 9, 9, 9, 9, 9, 9}, []int{0, 0, 0, 0, 0, 0}},
		{5, []int{15}, []int{0, 0, 0, 0, 0, 15}},
		{0, []int{1}, []int{1, 0, 0, 0, 0, 15}},
		{1, nil, []int{1, 0, 0, 0, 0, 15}},
	} {
		d.setElems(x.off, x.fs...)
		if got := d.s.Elems(); !slices.Equal(got, x.want) {
			t.Errorf("P11.1: after SetElems(%d, %v): Elems %v, want %v", x.off, x.fs, got, x.want)
		}
	}
}

// TestSetElemsToElems holds that what Elems returns, given back, makes the table that it was, with its empty elements.
func TestSetElemsToElems(t *testing.T) {
	d := newBoth(t, of(5), "a table given back")
	d.setElems(1, 3, 0)
	was := d.s.Elems()
	d.setElems(0, 9, 8, 7, 6, 5)
	d.setElems(0, was...)
	if got := d.s.Elems(); !slices.Equal(got, was) {
		t.Errorf("P11.1: Elems after what it was is given back: got %v, want %v", got, was)
	}
	for _, i := range []int64{0, 3, 4} {
		if f, ok := d.s.Elem(i); f != 0 || ok {
			t.Errorf("P11.1: Elem(%d) after -1 is written: got %d, %t", i, f, ok)
		}
	}
}

// TestSetElemsToAny holds that functions are taken as they are, also where no module has them.
func TestSetElemsToAny(t *testing.T) {
	d := newBoth(t, of(8), "any functions")
	for _, f := range []int{math.MinInt, math.MinInt + 1, -1 << 32, -2, 0, 1, 16, 1000, 1 << 32, math.MaxInt} {
		d.setElems(3, f, f, 0)
		if got, ok := d.s.Elem(4); got != f || !ok {
			t.Errorf("P11.1: Elem of %d: got %d, %t", f, got, ok)
		}
	}
}

func TestGlobal(t *testing.T) {
	d := newBoth(t, of(4, several()...), "globals")
	for i, want := range several() {
		if v, ok := d.s.Global(i); v != want || !ok {
			t.Errorf("P11.1: Global(%d): got %v, %t, want %v", i, v, ok, want)
		}
	}
	for _, i := range append(strange(), 8, 9, 15, 16, 17, 1<<32+3, -1<<32+3) {
		if v, ok := d.s.Global(i); v != (api.Val{}) || ok {
			t.Errorf("P11.1: Global(%d) of 8: got %v, %t", i, v, ok)
		}
	}
}

func TestSetGlobal(t *testing.T) {
	for _, values := range [][]api.Val{nil, {i32(1)}, {i64(1)}, several()} {
		places := strange()
		for i := range len(values) + 2 {
			places = append(places, i)
		}
		for _, i := range places {
			for _, v := range []api.Val{i32(0), i64(0), i32(-7), i64(1 << 40), {}, {N: 3}, {Kind: 3}, {Kind: -1}, {Kind: 1<<32 + 1}, {Kind: math.MaxInt}} {
				d := newBoth(t, of(2, values...), "globals to set")
				d.setElems(0, 1, 0)
				d.setGlobal(i, v)
			}
		}
	}
}

// TestSetGlobalOf holds what SetGlobal returns, and what it leaves.
func TestSetGlobalOf(t *testing.T) {
	d := newBoth(t, of(1, i32(5), i64(6), i32(7)), "three globals")
	for _, x := range []struct {
		i    int
		v    api.Val
		ok   bool
		want []api.Val
	}{
		{0, i32(50), true, []api.Val{i32(50), i64(6), i32(7)}},
		{0, i64(51), false, []api.Val{i32(50), i64(6), i32(7)}},
		{1, i32(60), false, []api.Val{i32(50), i64(6), i32(7)}},
		{1, i64(math.MinInt64), true, []api.Val{i32(50), i64(math.MinInt64), i32(7)}},
		{1, api.Val{}, false, []api.Val{i32(50), i64(math.MinInt64), i32(7)}},
		{2, i32(0), true, []api.Val{i32(50), i64(math.MinInt64), i32(0)}},
		{2, api.Val{Kind: 3}, false, []api.Val{i32(50), i64(math.MinInt64), i32(0)}},
		{3, i32(1), false, []api.Val{i32(50), i64(math.MinInt64), i32(0)}},
		{3, api.Val{}, false, []api.Val{i32(50), i64(math.MinInt64), i32(0)}},
		{-1, i32(1), false, []api.Val{i32(50), i64(math.MinInt64), i32(0)}},
		{math.MaxInt, i64(1), false, []api.Val{i32(50), i64(math.MinInt64), i32(0)}},
		{math.MinInt, i64(1), false, []api.Val{i32(50), i64(math.MinInt64), i32(0)}},
		{1, i64(-1), true, []api.Val{i32(50), i64(-1), i32(0)}},
		{1, i64(-1), true, []api.Val{i32(50), i64(-1), i32(0)}},
	} {
		if got := d.setGlobal(x.i, x.v); got != x.ok {
			t.Errorf("P11.1: SetGlobal(%d, %v): want %t, not %t", x.i, x.v, x.ok, got)
		}
		if got := d.s.Globals(); !slices.Equal(got, x.want) {
			t.Errorf("P11.1: after SetGlobal(%d, %v): Globals %v, want %v", x.i, x.v, got, x.want)
		}
	}
}

// TestSetGlobalOfNoKind holds that the kinds are held against each other, whatever they are.
func TestSetGlobalOfNoKind(t *testing.T) {
	d := newBoth(t, of(0, api.Val{}, api.Val{Kind: 3, N: 4}, i32(1)), "globals that are not valid")
	d.setGlobal(0, api.Val{N: 9})
	d.setGlobal(0, i32(9))
	d.setGlobal(1, api.Val{Kind: 3})
	d.setGlobal(1, api.Val{})
	d.setGlobal(2, i32(math.MaxInt64))
}

// TestOfNone holds what the chapter says of a nil *Space, for all arguments, and that no call makes it panic.
func TestOfNone(t *testing.T) {
	var none *space.Space
	for range 2 {
		for _, i := range append(strange(), 0, 1, 15, 16) {
			f, ok := none.Elem(int64(i))
			if f != 0 || ok || none.SetElems(i, nil) || none.SetElems(i, []int{}) || none.SetElems(i, []int{1, 2}) {
				t.Errorf("P11.1: of nil: at %d: Elem %d, %t, or SetElems true", i, f, ok)
			}
			v, ok := none.Global(i)
			if v != (api.Val{}) || ok || none.SetGlobal(i, v) || none.SetGlobal(i, i32(1)) || none.SetGlobal(i, i64(1)) {
				t.Errorf("P11.1: of nil: at %d: Global %v, %t, or SetGlobal true", i, v, ok)
			}
		}
		if len(none.Elems()) != 0 || len(none.Globals()) != 0 {
			t.Errorf("P11.1: of nil: Elems %v, Globals %v", none.Elems(), none.Globals())
		}
	}
}

// TestOfTheZeroSpace holds P0.1 for a Space that New has not made.
func TestOfTheZeroSpace(t *testing.T) {
	d := &both{t, "the zero Space", new(space.Space), newPlain(api.Module{})}
	d.same("nothing")
	for _, i := range append(strange(), 0, 1) {
		d.setElems(i)
		d.setElems(i, 1)
		d.setGlobal(i, i32(1))
		d.setGlobal(i, api.Val{})
	}
}
