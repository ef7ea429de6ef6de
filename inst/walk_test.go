package inst_test

import (
	"math/rand/v2"
	"slices"
	"strconv"
	"testing"

	"diapause/api"
	"diapause/inst"
)

// anyLimits are those of a table or a memory, of small sizes.
func anyLimits(r *rand.Rand) api.Limits {
	if r.IntN(8) == 0 {
		return api.Limits{}
	}
	return api.Limits{Has: true, Min: r.IntN(5), Max: r.IntN(10) - 1}
}

// anyModule is mostly valid; its Elems and Datas mostly fit.
func anyModule(r *rand.Rand) api.Module {
	m := world()
	m.Table, m.Mem = anyLimits(r), anyLimits(r)
	if r.IntN(3) > 0 {
		m.Table, m.Mem = api.Limits{Has: true, Min: 12, Max: -1}, api.Limits{Has: true, Min: 4, Max: 4}
	}
	m.Elems, m.Datas = nil, nil
	for range r.IntN(4) {
		e := api.Elem{Off: r.IntN(10)}
		if r.IntN(20) == 0 {
			e.Off -= 3
		}
		for range r.IntN(4) {
			e.Funcs = append(e.Funcs, r.IntN(5))
		}
		m.Elems = append(m.Elems, e)
	}
	for range r.IntN(4) {
		d := api.Data{Off: r.IntN(1000)}
		if r.IntN(20) == 0 {
			d.Off -= 100
		}
		for range r.IntN(1 << r.IntN(8)) {
			d.Bytes = append(d.Bytes, byte(r.Uint32()))
		}
		m.Datas = append(m.Datas, d)
	}
	return m
}

// TestManyModules holds many modules, of which there are enough of each outcome, against the plain reading.
func TestManyModules(t *testing.T) {
	r := rand.New(rand.NewPCG(12, 1))
	met := map[api.Errno]int{}
	for k := range 3000 {
		m := anyModule(r)
		_, want := newPlain(m)
		met[want]++
		hold(t, m, want, "many modules: "+strconv.Itoa(k))
		if t.Failed() {
			return
		}
	}
	for _, err := range []api.Errno{api.OK, api.ErrType, api.ErrRange} {
		if met[err] < 100 {
			t.Errorf("the test itself: of %d there are %d", err, met[err])
		}
	}
}

// TestManyUses holds that what is done to one of several instances of a module does not show in another one.
func TestManyUses(t *testing.T) {
	r := rand.New(rand.NewPCG(12, 2))
	m := world()
	var all []*inst.Inst
	first, firstTable := make([][]byte, 3), make([][]int, 3)
	for k := range 3 {
		all = append(all, hold(t, m, api.OK, "one of several"))
		first[k], firstTable[k] = content(all[k].Mem()), all[k].Space().Elems()
	}
	for range 500 {
		k := r.IntN(3)
		at, b := r.IntN(512), byte(r.Uint32())
		all[k].Mem().Store(int64(at), 1, uint64(b))
		first[k][at] = b
		i, f := r.IntN(4), r.IntN(5)
		all[k].Space().SetElems(i, []int{f})
		firstTable[k][i] = f
		for j, x := range all {
			if !slices.Equal(content(x.Mem()), first[j]) || !slices.Equal(x.Space().Elems(), firstTable[j]) {
				t.Fatalf("P0.5: the instance %d is not as it was left, behind a use of %d", j, k)
			}
		}
	}
}
