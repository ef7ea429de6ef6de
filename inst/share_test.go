package inst_test

import (
	"reflect"
	"slices"
	"sync"
	"testing"

	"diapause/api"
	"diapause/inst"
)

// roomy copies a module, so that something is spare behind each of its lists.
func roomy(v reflect.Value) reflect.Value {
	made := reflect.New(v.Type()).Elem()
	switch v.Kind() {
	case reflect.Slice:
		made.Set(reflect.MakeSlice(v.Type(), v.Len(), v.Len()+3))
		for k := range v.Len() {
			made.Index(k).Set(roomy(v.Index(k)))
		}
	case reflect.Struct:
		for k := range v.NumField() {
			made.Field(k).Set(roomy(v.Field(k)))
		}
	default:
		made.Set(v)
	}
	return made
}

// spoil writes over each list in a value, with what is spare behind it, and over what these lists hold.
func spoil(v reflect.Value) {
	switch v.Kind() {
	case reflect.Slice:
		for _, x := range v.Slice3(0, v.Cap(), v.Cap()).Seq2() {
			spoil(x)
			x.Set(other(x))
		}
	case reflect.Struct:
		for k := range v.NumField() {
			spoil(v.Field(k))
		}
	}
}

// other is a value that is not v.
func other(v reflect.Value) reflect.Value {
	made := reflect.New(v.Type()).Elem()
	switch v.Kind() {
	case reflect.Int, reflect.Int64:
		made.SetInt(v.Int() + 77)
	case reflect.Uint8:
		made.SetUint(v.Uint() ^ 0x55)
	}
	return made
}

// all copies a value, with all that is spare behind its lists, which shows as elements of the copy.
func all(v reflect.Value) reflect.Value {
	made := reflect.New(v.Type()).Elem()
	switch v.Kind() {
	case reflect.Slice:
		whole := v.Slice3(0, v.Cap(), v.Cap())
		made.Set(reflect.MakeSlice(v.Type(), whole.Len(), whole.Len()))
		for k := range whole.Len() {
			made.Index(k).Set(all(whole.Index(k)))
		}
	case reflect.Struct:
		for k := range v.NumField() {
			made.Field(k).Set(all(v.Field(k)))
		}
	default:
		made.Set(v)
	}
	return made
}

func roomyModule(m api.Module) api.Module { return roomy(reflect.ValueOf(m)).Interface().(api.Module) }

func spoilModule(m api.Module) { spoil(reflect.ValueOf(m)) }

func wholeModule(m api.Module) api.Module { return all(reflect.ValueOf(m)).Interface().(api.Module) }

// TestNewKeepsNothing holds P0.3: what New is given stays as it is, with what is spare behind its lists, and is not kept.
func TestNewKeepsNothing(t *testing.T) {
	for about, change := range map[string]func(m *api.Module){
		"an instance": func(m *api.Module) {},
		"ErrType":     func(m *api.Module) { m.Exports[3].Func = 5 },
		"ErrRange":    func(m *api.Module) { m.Datas[1].Off = 509 },
	} {
		m := world()
		change(&m)
		m = roomyModule(m)
		before := wholeModule(m)
		x, err := inst.New(m)
		if !reflect.DeepEqual(before, wholeModule(m)) {
			t.Errorf("P0.3: %s: New changed what it was given", about)
		}
		if err != api.OK {
			continue
		}
		use(x)
		if !reflect.DeepEqual(before, wholeModule(m)) {
			t.Errorf("P0.3: %s: a use of the instance changed what New was given", about)
		}
		x, _ = inst.New(m)
		p, _ := newPlain(world())
		spoilModule(m)
		same(t, x, p, "what New was given, spoiled")
	}
}

// use makes calls of all methods, and changes the memory, the table and the globals.
func use(x *inst.Inst) {
	x.Module()
	x.Type(2)
	x.Export("seven")
	x.Import(1)
	x.Mem().Store(0, 8, 0x1234567890)
	x.Mem().Grow(1)
	x.Space().SetElems(0, []int{3, 3, 3, 3})
	x.Space().SetGlobal(0, i32(99))
}

// TestModuleIsACopy holds P0.3: what is done to a module that was handed out changes neither the instance nor another one handed out.
func TestModuleIsACopy(t *testing.T) {
	x := hold(t, roomyModule(world()), api.OK, "a module handed out")
	p, _ := newPlain(world())
	first, second := x.Module(), x.Module()
	spoilModule(first)
	if !eq(second, world()) {
		t.Errorf("P0.3: Module changed with another one handed out: %v", second)
	}
	same(t, x, p, "a module handed out, spoiled")
	_ = append(second.Types, api.Type{Params: []int{9}})
	_ = append(second.Codes[0].Body, api.Instr{Op: call})
	_ = append(second.Codes[2].Body[2].L, 9)
	_ = append(second.Datas[0].Bytes, "zz"...)
	same(t, x, p, "a module handed out, appended to")
	if !eq(second, world()) {
		t.Errorf("P0.3: Module changed with what was appended to it: %v", second)
	}
}

// TestListsStandAlone holds that no two lists of a module that is handed out share anything, with what is spare.
func TestListsStandAlone(t *testing.T) {
	count := len(lists(hold(t, roomyModule(world()), api.OK, "lists").Module()))
	for k := range count {
		x := hold(t, roomyModule(world()), api.OK, "lists")
		m := x.Module()
		l := lists(m)
		want := make([]any, len(l))
		for j, other := range l {
			want[j] = all(other).Interface()
		}
		if l[k].Type().Elem().Kind() == reflect.Struct {
			continue
		}
		spoil(l[k])
		for j, other := range l {
			if k != j && other.Type() == l[k].Type() && !reflect.DeepEqual(all(other).Interface(), want[j]) {
				t.Errorf("P0.3: Module: the list %d changed with the list %d", j, k)
			}
		}
	}
}

// lists returns all the lists of a module.
func lists(m api.Module) []reflect.Value {
	var found []reflect.Value
	var walk func(v reflect.Value)
	walk = func(v reflect.Value) {
		switch v.Kind() {
		case reflect.Slice:
			found = append(found, v)
			for k := range v.Len() {
				walk(v.Index(k))
			}
		case reflect.Struct:
			for k := range v.NumField() {
				walk(v.Field(k))
			}
		}
	}
	walk(reflect.ValueOf(m))
	return found
}

// TestTypeIsACopy holds P0.3 for what Type returns.
func TestTypeIsACopy(t *testing.T) {
	x := hold(t, roomyModule(world()), api.OK, "a type handed out")
	p, _ := newPlain(world())
	for f := range 5 {
		first, _ := x.Type(f)
		second, _ := x.Type(f)
		want := world().Types[p.types()[f]]
		spoil(reflect.ValueOf(first))
		_ = append(first.Params, 9)
		if !slices.Equal(second.Params, want.Params) || !slices.Equal(second.Results, want.Results) {
			t.Errorf("P0.3: Type(%d) changed with another one handed out: %v", f, second)
		}
		_ = append(second.Params, 9)
		_ = append(second.Results[:0], 9)
		same(t, x, p, "a type handed out, spoiled")
	}
}

// TestOwnObjects holds that the memory and the Space that are handed out are the instance's own, each time the same one.
func TestOwnObjects(t *testing.T) {
	x := hold(t, world(), api.OK, "own objects")
	if x.Mem() != x.Mem() || x.Space() != x.Space() {
		t.Errorf("P12.1: Mem and Space are not the same ones each time")
	}
	use(x)
	if got, ok := x.Mem().Load(0, 8); got != 0x1234567890 || !ok || x.Mem().Pages() != 3 || !slices.Equal(x.Mem().Dirty(), []int{0, 2}) {
		t.Errorf("P12.1: Mem: a change does not stay: %x, %v", got, x.Mem().Dirty())
	}
	if v, _ := x.Space().Global(0); v != i32(99) || !slices.Equal(x.Space().Elems(), []int{3, 3, 3, 3}) {
		t.Errorf("P12.1: Space: a change does not stay: %v, %v", v, x.Space().Elems())
	}
	if !eq(x.Module(), world()) {
		t.Errorf("P12.1: Module: it changed with the memory and the Space: %v", x.Module())
	}
}

// TestInstancesStandAlone holds P0.5: two instances of one module have nothing in common.
func TestInstancesStandAlone(t *testing.T) {
	m := roomyModule(world())
	x, y := hold(t, m, api.OK, "the first"), hold(t, m, api.OK, "the second")
	p, _ := newPlain(world())
	if x == y || x.Mem() == y.Mem() || x.Space() == y.Space() {
		t.Fatalf("P0.3: two instances share an object")
	}
	use(x)
	same(t, y, p, "the second, behind a use of the first")
	z := hold(t, x.Module(), api.OK, "one of the first's module")
	use(y)
	same(t, z, p, "the third, behind a use of the second")
	spoilModule(z.Module())
	same(t, hold(t, m, api.OK, "the last"), p, "the last")
}

// TestErrorsLeaveNothing holds that what one module could not be made of has no part in the next one.
func TestErrorsLeaveNothing(t *testing.T) {
	m := world()
	m.Datas[1].Off = 511
	hold(t, m, api.ErrRange, "a Data that does not fit")
	m.Elems, m.Datas = nil, nil
	hold(t, m, api.OK, "the same without Elems and Datas")
}

// TestInstancesAtOnce holds the same for instances that are made and used at the same time.
func TestInstancesAtOnce(t *testing.T) {
	m := roomyModule(world())
	p, _ := newPlain(world())
	var group sync.WaitGroup
	for range 4 {
		group.Go(func() {
			for range 20 {
				x, err := inst.New(m)
				if err != api.OK {
					t.Errorf("P12.1: at once: New: got %d", err)
					return
				}
				same(t, x, p, "at once")
				spoilModule(x.Module())
				use(x)
			}
		})
	}
	group.Wait()
}
