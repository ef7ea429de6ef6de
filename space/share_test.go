package space_test

import (
	"reflect"
	"slices"
	"sync"
	"testing"

	"diapause/api"
	"diapause/space"
)

// spoil writes over all of a list, with what is spare behind it.
func spoil[E any](l []E, x E) {
	l = l[:cap(l)]
	for k := range l {
		l[k] = x
	}
}

// TestElemsIsACopy holds P0.3: what is done to a table that was handed out changes neither the Space nor another table handed out.
func TestElemsIsACopy(t *testing.T) {
	for _, size := range []int{0, 1, 3, 16} {
		d := newBoth(t, of(size, several()...), "tables handed out")
		for off := range size {
			d.setElems(off, off*3)
			first, second := d.s.Elems(), d.s.Elems()
			spoil(first, 99)
			if !slices.Equal(second, d.p.list()) {
				t.Errorf("P0.3: Elems changed with another one handed out: %v", second)
			}
			d.same("spoiling a table")
			_ = append(second, 98)
			_ = append(second[:0], 97)
			d.same("appending to a table")
		}
	}
	d := newBoth(t, of(4), "a table handed out before")
	d.setElems(1, 7, 0)
	l := d.s.Elems()
	want := slices.Clone(l)
	d.setElems(0, 1, 2, 3, 4)
	if !slices.Equal(l, want) {
		t.Errorf("P0.3: Elems, handed out before, changed with the Space: %v", l)
	}
}

// TestGlobalsIsACopy holds P0.3 for what Globals returns.
func TestGlobalsIsACopy(t *testing.T) {
	for n := range 9 {
		d := newBoth(t, of(2, several()[:n]...), "globals handed out")
		for range 2 {
			first, second := d.s.Globals(), d.s.Globals()
			spoil(first, i64(99))
			if !slices.Equal(second, d.p.values()) {
				t.Errorf("P0.3: Globals changed with another one handed out: %v", second)
			}
			d.same("spoiling globals")
			_ = append(second, i32(98))
			_ = append(second[:0], i32(97))
			d.same("appending to globals")
			d.setGlobal(0, i32(3))
		}
	}
	d := newBoth(t, of(2, several()...), "globals handed out before")
	l := d.s.Globals()
	want := slices.Clone(l)
	d.setGlobal(0, i32(77))
	d.setGlobal(1, i64(78))
	if !slices.Equal(l, want) {
		t.Errorf("P0.3: Globals, handed out before, changed with the Space: %v", l)
	}
}

// TestNewKeepsNothing holds P0.3: the module stays as it is, with what is spare behind its lists, and they are not kept.
func TestNewKeepsNothing(t *testing.T) {
	all := of(4, append(several(), several()...)...).Globals
	want := slices.Clone(all)
	elems := []api.Elem{{Off: 1, Funcs: []int{3, 2}}}
	for n := range len(all) + 1 {
		m := of(4)
		m.Globals = all[:n]
		m.Elems = elems[:n%2]
		d := newBoth(t, m, "a module given")
		for i := range n + 1 {
			d.setGlobal(i, i32(int64(i)+100))
			d.setGlobal(i, i64(int64(i)+100))
		}
		d.setElems(0, 1, 2, 3, 4)
		d.setElems(4)
		if !slices.Equal(all, want) {
			t.Fatalf("P0.3: the globals of the module changed: %v", all)
		}
	}
	if !reflect.DeepEqual(elems, []api.Elem{{Off: 1, Funcs: []int{3, 2}}}) {
		t.Errorf("P0.3: the Elems of the module changed: %v", elems)
	}
	m := of(4)
	m.Globals = all[:5]
	d := newBoth(t, m, "a module given, and spoiled")
	spoil(all, api.Global{Init: i64(55)})
	d.same("spoiling what was given")
}

// TestSetElemsKeepsNothing holds P0.3: the functions given stay as they are, with what is spare behind them, and are not kept.
func TestSetElemsKeepsNothing(t *testing.T) {
	d := newBoth(t, of(6), "functions given")
	all := []int{5, 0, 3, 9, 2, 7, 7, 1}
	want := slices.Clone(all)
	for off := -1; off < 8; off++ {
		for n := range 9 {
			d.setElems(off, all[:n]...)
			d.setElems(off, all[n:]...)
		}
	}
	d.setElems(0, all[:6]...)
	d.setElems(2, all[4:6]...)
	d.setElems(3, 10, 11)
	if !slices.Equal(all, want) {
		t.Errorf("P0.3: the functions given to SetElems changed: %v", all)
	}
	d.setElems(1, all[:3]...)
	spoil(all, 55)
	d.same("spoiling what was given")
}

// TestSetElemsToATable holds that a table handed out can be given back, also to another Space, and is not kept.
func TestSetElemsToATable(t *testing.T) {
	d, other := newBoth(t, of(3), "a table given back"), newBoth(t, of(3), "another table")
	d.setElems(0, 4, 0, 6)
	table := d.s.Elems()
	d.setElems(0, table...)
	other.setElems(0, table...)
	spoil(table, 1)
	d.same("spoiling the table")
	other.same("spoiling the table")
	d.setElems(1, d.s.Elems()[:2]...)
}

// TestSpacesStandAlone holds P0.5: what is done to a Space changes no other one, of the same module or of others.
func TestSpacesStandAlone(t *testing.T) {
	m := of(4, several()...)
	var all []*both
	for _, x := range []api.Module{m, m, of(16), {}, of(4, i32(5))} {
		all = append(all, newBoth(t, x, "one of several"))
	}
	for k, d := range all {
		d.setElems(0, k, 0, k)
		d.setGlobal(0, i32(int64(k)))
		d.setGlobal(1, i64(int64(k)))
		for _, other := range all {
			other.same("a call of another Space")
		}
	}
	newBoth(t, m, "one made after others")
}

// TestSpacesAtOnce holds the same for Spaces that are used at the same time.
func TestSpacesAtOnce(t *testing.T) {
	m := of(8, several()...)
	var group sync.WaitGroup
	for k := range 4 {
		group.Go(func() {
			d := &both{t, "one of several at once", space.New(m), newPlain(m)}
			for i := range 100 {
				d.setElems(i%8, i+k)
				d.setGlobal(i%8, i32(int64(i*k)))
				d.setGlobal(i%8, i64(int64(i-k)))
			}
		})
	}
	group.Wait()
}
