package wasm_test

import (
	"bytes"
	"cmp"
	"fmt"
	"reflect"
	"slices"
	"testing"

	"diapause/api"
	"diapause/wasm"
)

// span is the memory of one list, with what is spare behind it.
type span struct{ from, to uintptr }

// spans are those of all lists of a value.
func spans(v reflect.Value) []span {
	var all []span
	switch v.Kind() {
	case reflect.Slice:
		if v.Cap() > 0 {
			from := v.Pointer()
			all = append(all, span{from, from + uintptr(v.Cap())*v.Type().Elem().Size()})
		}
		whole := v.Slice3(0, v.Cap(), v.Cap())
		for k := range whole.Len() {
			all = append(all, spans(whole.Index(k))...)
		}
	case reflect.Struct:
		for k := range v.NumField() {
			all = append(all, spans(v.Field(k))...)
		}
	}
	return all
}

// apart tells whether no two lists of these values have memory in common.
func apart(values ...any) bool {
	var all []span
	for _, v := range values {
		all = append(all, spans(reflect.ValueOf(v))...)
	}
	slices.SortFunc(all, func(a, b span) int { return cmp.Compare(a.from, b.from) })
	for k := 1; k < len(all); k++ {
		if all[k].from < all[k-1].to {
			return false
		}
	}
	return true
}

// roomy copies l, and lays spare ones behind it, which are fit to be elements.
func roomy[E any](l []E, spare E) []E {
	return append(slices.Clone(l), slices.Repeat([]E{spare}, 9)...)[:len(l)]
}

// withRoom copies m, so that something is spare behind each of its lists.
func withRoom(m api.Module) api.Module {
	m = copyOf(m, false)
	for k := range m.Types {
		x := &m.Types[k]
		x.Params, x.Results = roomy(x.Params, 1), roomy(x.Results, 2)
	}
	for k := range m.Elems {
		m.Elems[k].Funcs = roomy(m.Elems[k].Funcs, 5)
	}
	for k := range m.Codes {
		x := &m.Codes[k]
		x.Locals = roomy(x.Locals, 1)
		for j := range x.Body {
			if x.Body[j].Op == 0x0e {
				x.Body[j].L = roomy(x.Body[j].L, 7)
			}
		}
		x.Body = roomy(x.Body, api.Instr{Op: 0x01})
	}
	for k := range m.Datas {
		m.Datas[k].Bytes = roomy(m.Datas[k].Bytes, 'z')
	}
	m.Types = roomy(m.Types, api.Type{})
	m.Imports = roomy(m.Imports, api.Import{Mod: "m", Name: "n"})
	m.Funcs = roomy(m.Funcs, 3)
	m.Globals = roomy(m.Globals, api.Global{Init: api.Val{Kind: 1}})
	m.Exports = roomy(m.Exports, api.Export{Name: "e"})
	m.Elems = roomy(m.Elems, api.Elem{})
	m.Codes = roomy(m.Codes, api.Code{})
	m.Datas = roomy(m.Datas, api.Data{})
	return m
}

// fill overwrites l and what is spare behind it.
func fill[E any](l []E, x E) {
	l = l[:cap(l)]
	for k := range l {
		l[k] = x
	}
}

// spoil overwrites all lists of m.
func spoil(m api.Module) {
	for _, x := range m.Types[:cap(m.Types)] {
		fill(x.Params, 77)
		fill(x.Results, 77)
	}
	for _, x := range m.Elems[:cap(m.Elems)] {
		fill(x.Funcs, 77)
	}
	for _, x := range m.Codes[:cap(m.Codes)] {
		fill(x.Locals, 77)
		for _, y := range x.Body[:cap(x.Body)] {
			fill(y.L, 77)
		}
		fill(x.Body, api.Instr{Op: 77, A: 77})
	}
	for _, x := range m.Datas[:cap(m.Datas)] {
		fill(x.Bytes, 77)
	}
	fill(m.Types, api.Type{Params: []int{77}})
	fill(m.Imports, api.Import{Mod: "77"})
	fill(m.Funcs, 77)
	fill(m.Globals, api.Global{Mut: true})
	fill(m.Exports, api.Export{Name: "77"})
	fill(m.Elems, api.Elem{Off: 77})
	fill(m.Codes, api.Code{Locals: []int{77}})
	fill(m.Datas, api.Data{Off: 77})
}

// fitAndUnfit are modules, and what is none.
func fitAndUnfit() []api.Module {
	all := []api.Module{full(), {}, long(8000), long(8001), greatest()}
	for _, m := range alone() {
		all = append(all, m)
	}
	for _, change := range differences() {
		m := full()
		change(&m)
		all = append(all, m)
	}
	return all
}

// TestArgumentsStay holds all calls against P0.3: what is handed in stays as it is, with what is spare behind it.
func TestArgumentsStay(t *testing.T) {
	for k, m := range fitAndUnfit() {
		m = withRoom(m)
		want, other := copyOf(m, true), withRoom(full())
		wantOther := copyOf(other, true)
		wasm.May(m)
		wasm.Encode(m)
		wasm.Eq(m, m)
		wasm.Eq(m, other)
		wasm.Eq(other, m)
		if !reflect.DeepEqual(copyOf(m, true), want) || !reflect.DeepEqual(copyOf(other, true), wantOther) {
			t.Errorf("P0.3: the module %d became %v", k, m)
		}
		compareModule(t, m, "with room")
		b := roomy(encode(m), 0x0b)
		text := bytes.Clone(b[:cap(b)])
		wasm.Decode(b)
		for cut := 0; cut < len(b); cut += 1 + len(b)/50 {
			wasm.Decode(b[:cut])
		}
		if !bytes.Equal(b[:cap(b)], text) {
			t.Errorf("P0.3: Decode changed the encoding of the module %d", k)
		}
	}
}

// TestEncodeIsFresh holds the results of Encode against P0.3: no shared memory, neither used nor spare, and none kept.
func TestEncodeIsFresh(t *testing.T) {
	for k, m := range fitAndUnfit() {
		m = withRoom(m)
		want, text := copyOf(m, true), wasm.Encode(m)
		first, second := wasm.Encode(m), wasm.Encode(m)
		if !apart(m, first, second) {
			t.Errorf("P0.3: Encode of the module %d shares memory", k)
		}
		fill(first, 6)
		if !reflect.DeepEqual(copyOf(m, true), want) || !bytes.Equal(second, text) || !bytes.Equal(wasm.Encode(m), text) {
			t.Errorf("P0.3: Encode of the module %d shares memory that is overwritten", k)
		}
		spoil(m)
		if !bytes.Equal(second, text) {
			t.Errorf("P0.3: Encode of the module %d hangs on its argument", k)
		}
	}
}

// TestDecodeIsFresh does the same for Decode, and holds its lists against one another.
func TestDecodeIsFresh(t *testing.T) {
	all := alone()
	all["all"], all["none"], all["a long one"], all["the greatest"] = full(), api.Module{}, long(8000), greatest()
	for name, m := range all {
		b := roomy(encode(m), 0x0b)
		text := bytes.Clone(b[:cap(b)])
		first, err := wasm.Decode(b)
		second, again := wasm.Decode(b)
		if err != api.OK || again != api.OK {
			t.Errorf("P7.1: Decode of %s: got %d and %d", name, err, again)
		}
		if !apart(b, first, second) {
			t.Errorf("P0.3: Decode of %s shares memory", name)
		}
		spoil(first)
		if !bytes.Equal(b[:cap(b)], text) || !same(second, m) {
			t.Errorf("P0.3: Decode of %s shares memory that is overwritten", name)
		}
		if third, err := wasm.Decode(b); !same(third, m) || err != api.OK {
			t.Errorf("P0.3: Decode of %s keeps its result: got %v, %d", name, third, err)
		}
		fill(b, 7)
		if !same(second, m) {
			t.Errorf("P0.3: Decode of %s hangs on its argument", name)
		}
	}
}

// TestCallsStandAlone holds the calls against P0.5: what was asked before changes no answer.
func TestCallsStandAlone(t *testing.T) {
	told := map[int]string{}
	for range 3 {
		for k, m := range fitAndUnfit()[:5] {
			x, err := wasm.Decode(encode(m))
			got := fmt.Sprint(wasm.May(m), wasm.Encode(m), wasm.Eq(m, full()), wasm.Eq(m, m), copyOf(x, false), err)
			wasm.Decode([]byte("\x00asm\x01\x00\x00\x00\x01\xff"))
			if before, ok := told[k]; ok && before != got {
				t.Errorf("P0.5: the module %d: got %s, before it %s", k, got, before)
			}
			told[k] = got
		}
	}
}
