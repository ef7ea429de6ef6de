package valid_test

import (
	"math/rand/v2"
	"slices"
	"strconv"
	"testing"

	"diapause/api"
)

// fault is a change to a module that makes a part of this number wrong.
type fault struct {
	number int
	about  string
	change func(*api.Module)
}

// wrongs are several faults of each number. Most of them stand side by side in one module; those that take away what another
// one needs do not.
func wrongs() []fault {
	return []fault{
		{0, "a name without bytes", func(m *api.Module) { m.Imports[0].Name = "" }},
		{0, "a Code too many", func(m *api.Module) { m.Codes = append(m.Codes, api.Code{}) }},
		{0, "a kind that is none", func(m *api.Module) { m.Types = append(m.Types, api.Type{Params: []int{9}}) }},
		{0, "a global of no kind", func(m *api.Module) { m.Globals[1].Init.Kind = 0 }},
		{2, "the type of the first import", func(m *api.Module) { m.Imports[0].Type = 4 }},
		{2, "the type of the last import", func(m *api.Module) { m.Imports[1].Type = 1000 }},
		{3, "the type of the first function", func(m *api.Module) { m.Funcs[0] = 4 }},
		{3, "the type of the last function", func(m *api.Module) { m.Funcs[2] = 1000 }},
		{4, "a Max below the table's Min", func(m *api.Module) { m.Table = api.Limits{Has: true, Min: 4, Max: 3} }},
		{4, "a table of none at the most", func(m *api.Module) { m.Table = api.Limits{Has: true, Min: 1, Max: 0} }},
		{5, "a Max below the memory's Min", func(m *api.Module) { m.Mem = api.Limits{Has: true, Min: 2, Max: 1} }},
		{5, "a memory of none at the most", func(m *api.Module) { m.Mem = api.Limits{Has: true, Min: 16, Max: 0} }},
		{7, "the function of the first export", func(m *api.Module) { m.Exports[0].Func = 5 }},
		{7, "the function of the last export", func(m *api.Module) { m.Exports[2].Func = 1000 }},
		{7, "a name twice", func(m *api.Module) { m.Exports[2].Name = m.Exports[0].Name }},
		{9, "a function of the first Elem", func(m *api.Module) { m.Elems[0].Funcs[0] = 5 }},
		{9, "a function of the last Elem", func(m *api.Module) { m.Elems[1].Funcs[2] = 1000 }},
		{9, "no table", func(m *api.Module) { m.Table = api.Limits{} }},
		{10, "the first code", func(m *api.Module) { m.Codes[0].Body = []api.Instr{{Op: drop}} }},
		{10, "the last code", func(m *api.Module) { m.Codes[2].Body = nil }},
		{11, "no memory", func(m *api.Module) { m.Mem = api.Limits{} }},
		{11, "no memory for Datas without Bytes", func(m *api.Module) { m.Mem, m.Datas = api.Limits{}, []api.Data{{}} }},
	}
}

// TestEachFault holds each fault for itself, the module without it being valid.
func TestEachFault(t *testing.T) {
	made := map[int]int{}
	for _, w := range wrongs() {
		m := idle()
		hold(t, m, -1, "without the fault: "+w.about)
		w.change(&m)
		hold(t, m, w.number, w.about)
		if slices.Equal(faults(m), together(w.number, w.number)) {
			made[w.number]++
		}
		m = world()
		w.change(&m)
		compare(t, m, w.about+", beside bodies")
	}
	for _, number := range numbers {
		if made[number] < 2 {
			t.Errorf("the part %d has too few faults", number)
		}
	}
}

// idle is the world with functions that make use of nothing.
func idle() api.Module {
	m := world()
	m.Codes = bare().Codes
	return m
}

// TestTwoFaults holds that of two parts that are not valid the lower number is returned, in whichever order they became so.
func TestTwoFaults(t *testing.T) {
	type two struct{ low, high int }
	seen := map[two]int{}
	for _, start := range []func() api.Module{world, idle} {
		for _, v := range wrongs() {
			for _, w := range wrongs() {
				m := start()
				v.change(&m)
				w.change(&m)
				about := v.about + " and " + w.about
				compare(t, m, about)
				x := two{min(v.number, w.number), max(v.number, w.number)}
				if slices.Equal(faults(m), together(x.low, x.high)) {
					hold(t, m, x.low, about)
					seen[x]++
				}
			}
		}
	}
	for k, low := range numbers {
		for _, high := range numbers[k+1:] {
			// Limits of no memory are all zero, so that these two exclude each other.
			apart := low == 5 && high == 11
			if !apart && seen[two{low, high}] == 0 {
				t.Errorf("no module has the faults %d and %d and no other one", low, high)
			}
		}
	}
}

// together are the faults of a module that has these two: a function whose type does not exist has no valid code.
func together(low, high int) []int {
	all := []int{low, high}
	if low == 3 || high == 3 {
		all = append(all, 10)
	}
	slices.Sort(all)
	return slices.Compact(all)
}

// TestTypeAndCode holds the two that come together, for each function with each code.
func TestTypeAndCode(t *testing.T) {
	for k := range 3 {
		for j := range 3 {
			m := world()
			m.Funcs[k] = 4
			m.Codes[j].Body = []api.Instr{{Op: drop}}
			hold(t, m, 3, "a type that does not exist at "+strconv.Itoa(k)+", a bad code at "+strconv.Itoa(j))
			if all := faults(m); !slices.Equal(all, []int{3, 10}) {
				t.Errorf("it has the faults %v", all)
			}
		}
	}
}

// TestManyFaults holds all faults together that can stand together, one of each number that is chosen.
func TestManyFaults(t *testing.T) {
	for chosen := range 1 << len(numbers) {
		for turn := range 4 {
			m := world()
			last := map[int]fault{}
			for _, w := range wrongs() {
				if _, ok := last[w.number]; !ok || turn%2 == 1 {
					last[w.number] = w
				}
			}
			order := slices.Clone(numbers)
			if turn >= 2 {
				slices.Reverse(order)
			}
			for _, number := range order {
				if chosen>>slices.Index(numbers, number)&1 == 1 {
					last[number].change(&m)
				}
			}
			compare(t, m, "the faults of the set "+strconv.Itoa(chosen)+", in turn "+strconv.Itoa(turn))
		}
	}
}

// TestWalk goes from module to module by small changes, of which many make a fault and many mend one.
func TestWalk(t *testing.T) {
	r := rand.New(rand.NewPCG(9, 1))
	seen := map[int]int{}
	for range 300 {
		m := world()
		for range 60 {
			stir(r, &m)
			compare(t, m, "on the walk")
			got, _ := slow(m)
			seen[got]++
		}
	}
	for _, number := range append([]int{-1}, numbers...) {
		if seen[number] < 20 {
			t.Errorf("on the walk the answer is %d only %d times", number, seen[number])
		}
	}
}

// stir makes one small change.
func stir(r *rand.Rand, m *api.Module) {
	limits := api.Limits{Has: r.IntN(9) > 0, Min: r.IntN(3), Max: r.IntN(5) - 1}
	if !limits.Has && r.IntN(20) > 0 {
		limits = api.Limits{}
	}
	switch r.IntN(12) {
	case 0:
		m.Types = append(slices.Clone(m.Types), api.Type{})[:max(3, r.IntN(len(m.Types)+2))]
	case 1:
		m.Imports = slices.Repeat(world().Imports, 2)[:r.IntN(4)]
		for k := range m.Imports {
			m.Imports[k].Type = r.IntN(len(m.Types)+1) * r.IntN(2)
		}
	case 2:
		k := r.IntN(4)
		m.Funcs, m.Codes = make([]int, k), make([]api.Code, k)
		for j := range m.Funcs {
			m.Funcs[j] = r.IntN(len(m.Types)+1) * r.IntN(2)
			m.Codes[j] = bare().Codes[0]
		}
	case 3:
		m.Table = limits
	case 4:
		m.Mem = limits
	case 5, 6:
		m.Exports = make([]api.Export, r.IntN(4))
		for k := range m.Exports {
			m.Exports[k] = api.Export{Name: strconv.Itoa(r.IntN(12)), Func: r.IntN(len(m.Imports) + len(m.Funcs) + r.IntN(2) + 1)}
		}
	case 7, 8:
		m.Elems = make([]api.Elem, r.IntN(3))
		for k := range m.Elems {
			m.Elems[k].Funcs = []int{r.IntN(len(m.Imports) + len(m.Funcs) + r.IntN(2) + 1)}
		}
	case 9:
		if len(m.Codes) > 0 {
			bodies := [][]api.Instr{nil, {{Op: unreachable}}, {{Op: i32Const}, {Op: drop}}, {{Op: i32Const}}, {{Op: call}}, {{Op: drop}}}
			m.Codes[r.IntN(len(m.Codes))].Body = bodies[r.IntN(len(bodies))]
		}
	case 10:
		m.Datas = make([]api.Data, r.IntN(3))
	case 11:
		*m = idle()
	}
}
