package snap_test

import (
	"bytes"
	"fmt"
	"maps"
	"math"
	"slices"
	"testing"

	"diapause/api"
	"diapause/run"
	"diapause/snap"
	"diapause/state"
)

// TestMachines holds machines that stand in all ways, up to their ends.
func TestMachines(t *testing.T) {
	m := world()
	for name, c := range machines(t) {
		d := hold(t, m, c, name)
		for k := range 60 {
			move(c)
			move(d)
			if told(c) != told(d) {
				t.Fatalf("P16.1: %s, %d steps behind Load: got %s, want %s", name, k+1, told(d), told(c))
			}
			if k%7 == 0 {
				d = hold(t, m, d, fmt.Sprint(name, ", loaded, behind ", k, " steps"))
			}
		}
	}
}

// TestStands holds that machines are what their names say, so that every Kind and Trap is there.
func TestStands(t *testing.T) {
	seen := map[string]int{}
	for _, c := range machines(t) {
		seen[fmt.Sprint(c.Out().Kind, " ", c.Out().Trap)]++
	}
	for _, s := range []string{"0 0", "1 0", "2 0", "3 0", "4 1", "4 2", "4 3", "4 4", "4 5", "4 6", "5 0"} {
		if seen[s] == 0 {
			t.Errorf("the test itself: no machine with %s", s)
		}
	}
}

// TestModules holds machines of modules with and without memory, table and globals.
func TestModules(t *testing.T) {
	for k := range 8 {
		m := bare(fn{"f", 1, "41,5 10,0", nil})
		if k&1 != 0 {
			m.Mem = api.Limits{Has: true, Min: k, Max: -1}
		}
		if k&2 != 0 {
			m.Table = api.Limits{Has: true, Min: k, Max: -1}
		}
		if k&4 != 0 {
			m.Globals = slices.Repeat([]api.Global{{Init: i64(int64(k))}}, 16)
		}
		for steps := range 5 {
			c := begun(t, m, steps, "f")
			c.Inst().Space().SetGlobal(15, i64(-1))
			c.Inst().Space().SetElems(k-1, []int{tell})
			hold(t, m, c, fmt.Sprint("the module ", k, ", behind ", steps, " steps"))
		}
	}
	m := bare()
	m.Table = api.Limits{Has: true, Min: 16, Max: -1}
	c := made(t, m)
	c.Inst().Space().SetElems(0, []int{15, 14, 13, 12, 11, 10, 9, 8, 7, 6, 5, 4, 3, 2, 1, 0})
	hold(t, m, c, "sixteen elements")
	m = api.Module{}
	hold(t, m, made(t, m), "the zero Module")
	m.Mem, m.Table = api.Limits{Has: true, Max: -1}, api.Limits{Has: true, Max: -1}
	hold(t, m, made(t, m), "an empty memory")
	m.Mem.Min = 16
	hold(t, m, made(t, m), "sixteen pages")
	m.Mem.Min = 2
	c = made(t, m)
	c.Inst().Mem().Grow(14)
	c.Inst().Mem().Store(4095, 1, 9)
	if d := hold(t, m, c, "two pages and fourteen"); !bytes.Equal(d.Inst().Mem().Page(15), c.Inst().Mem().Page(15)) {
		t.Errorf("P16.1: the last page of sixteen is another one")
	}
}

// variants are machines that differ from each other in one thing, beside the first ones, which all are the same one.
func variants(t *testing.T) (same, others []*run.Machine) {
	m := world()
	at := func() *run.Machine { return begun(t, m, 13, "blocks", i64(3), i32(-1)) }
	for range 3 {
		same = append(same, at())
	}
	// What the memory holds, and which pages are dirty, is not in the encoding.
	same[1].Inst().Mem().Store(0, 8, 1<<60)
	same[2].Inst().Mem().Clean()
	set := func(change func(s *state.State, out *api.Outcome, cost *complex128, calls *int, mark *complex128)) {
		c := at()
		s, out, cost, calls, mark := c.State(), c.Out(), c.Meter(), c.Calls(), c.Mark()
		change(&s, &out, &cost, &calls, &mark)
		c.Set(s, out, cost, calls, mark)
		others = append(others, c)
	}
	for _, out := range []api.Outcome{{}, {Kind: api.Done}, {Kind: api.Exhausted}, {Kind: api.Asks}, {Kind: api.Trapped, Trap: 1}, {Kind: api.Trapped, Trap: 6}, {Kind: api.More, Fn: 1},
		{Kind: api.More, Vals: []api.Val{i32(1)}}, {Kind: api.More, Vals: []api.Val{i64(1)}}, {Kind: api.More, Vals: []api.Val{i32(1), i32(1)}}} {
		set(func(s *state.State, o *api.Outcome, cost *complex128, calls *int, mark *complex128) { *o = out })
	}
	for _, d := range []complex128{1, 1i, 1 + 1i, 300, 300i} {
		set(func(s *state.State, o *api.Outcome, cost *complex128, calls *int, mark *complex128) { *cost += d })
		set(func(s *state.State, o *api.Outcome, cost *complex128, calls *int, mark *complex128) { *mark += d })
	}
	for _, n := range []int{1, 127, 128, 1000000} {
		set(func(s *state.State, o *api.Outcome, cost *complex128, calls *int, mark *complex128) { *calls = n })
	}
	for _, change := range stateChanges() {
		set(func(s *state.State, o *api.Outcome, cost *complex128, calls *int, mark *complex128) { change(s) })
	}
	for _, change := range []func(c *run.Machine){
		func(c *run.Machine) { c.Inst().Mem().Grow(1) }, func(c *run.Machine) { c.Inst().Mem().Grow(2) },
		func(c *run.Machine) { c.Inst().Space().SetElems(0, []int{0}) }, func(c *run.Machine) { c.Inst().Space().SetElems(0, []int{1}) },
		func(c *run.Machine) { c.Inst().Space().SetElems(3, []int{0}) }, func(c *run.Machine) { c.Inst().Space().SetElems(1, []int{own}) },
		func(c *run.Machine) { c.Inst().Space().SetGlobal(0, i32(8)) }, func(c *run.Machine) { c.Inst().Space().SetGlobal(0, i32(-7)) },
		func(c *run.Machine) { c.Inst().Space().SetGlobal(1, i64(9)) }, func(c *run.Machine) { c.Inst().Space().SetGlobal(2, i64(-1)) },
	} {
		c := at()
		change(c)
		others = append(others, c)
	}
	return same, others
}

// stateChanges are changes of a state with two Vals and a Frame with a Label at least.
func stateChanges() []func(s *state.State) {
	return []func(s *state.State){
		func(s *state.State) { s.Asks = 0 },
		func(s *state.State) { s.Asks = 1 },
		func(s *state.State) { s.Vals = s.Vals[1:] },
		func(s *state.State) { s.Vals = append(s.Vals, i32(0)) },
		func(s *state.State) { s.Vals = append(s.Vals, i64(0)) },
		func(s *state.State) { s.Vals[0].N++ },
		func(s *state.State) { s.Vals[0].Kind = 3 - s.Vals[0].Kind },
		func(s *state.State) { s.Frames = append(s.Frames, s.Frames[0]) },
		func(s *state.State) { s.Frames[0].Fn++ },
		func(s *state.State) { s.Frames[0].Pc++ },
		func(s *state.State) { s.Frames[0].Base++ },
		func(s *state.State) { s.Frames[0].Locals[1].N = 99 },
		func(s *state.State) { s.Frames[0].Locals = s.Frames[0].Locals[1:] },
		func(s *state.State) { s.Frames[0].Labels[0].At++ },
		func(s *state.State) { s.Frames[0].Labels[0].Height++ },
		func(s *state.State) { s.Frames[0].Labels = s.Frames[0].Labels[1:] },
	}
}

// TestDiffer holds that machines have one encoding only if they are equal, and then they have it.
func TestDiffer(t *testing.T) {
	same, others := variants(t)
	seen := map[string]int{}
	for k, c := range same {
		if string(snap.Save(c)) != string(snap.Save(same[0])) {
			t.Errorf("P16.1: the machine %d is the same, and its encoding another one", k)
		}
	}
	seen[string(snap.Save(same[0]))] = -1
	for k, c := range others {
		b := snap.Save(c)
		if twin, ok := seen[string(b)]; ok || len(b) == 0 {
			t.Errorf("P16.1: the machines %d and %d differ, and have one encoding: %s", twin, k, told(c))
		}
		seen[string(b)] = k
		if string(snap.Save(c)) != string(b) {
			t.Errorf("P0.5: Save of one machine has two answers")
		}
	}
	all := machines(t)
	for _, a := range slices.Sorted(maps.Keys(all)) {
		for b := range all {
			if a != b && string(snap.Save(all[a])) == string(snap.Save(all[b])) {
				t.Errorf("P16.1: %s and %s have one encoding", a, b)
			}
		}
	}
	// What was reached in other ways may be the same machine.
	c, d := begun(t, world(), 5, "asks", i32(4)), made(t, world())
	d.Set(c.State(), c.Out(), c.Meter()+complex(0, 0), c.Calls(), c.Mark())
	if string(snap.Save(c)) != string(snap.Save(d)) {
		t.Errorf("P16.1: a machine that Set has made has another encoding")
	}
}

// TestNumbers holds the parts of Meter, Calls and Mark at their edges.
func TestNumbers(t *testing.T) {
	m := world()
	for _, x := range []struct {
		cost  complex128
		calls int
		mark  complex128
		ok    bool
	}{
		{0, 0, 0, true}, {1, 0, 0, true}, {1i, 0, 0, true}, {1000000 + 8000000i, 1000000, 1000002 + 1000002i, true}, {5 + 3i, 4, 2i, true}, {complex(0, 127), 0, 128, true},
		{1000001, 0, 0, false}, {8000001i, 0, 0, false}, {0, 1000001, 0, false}, {0, 0, 1000003, false}, {0, 0, 1000003i, false},
		{-1, 0, 0, false}, {-1i, 0, 0, false}, {0, -1, 0, false}, {0, 0, -1, false}, {0, 0, -1i, false}, {1 << 50, 0, 0, false}, {-1 << 50, 0, 0, false},
	} {
		c := begun(t, m, 5, "asks", i32(4))
		c.Set(c.State(), c.Out(), x.cost, x.calls, x.mark)
		about := fmt.Sprint("a machine with ", x.cost, x.calls, x.mark)
		if x.ok {
			hold(t, m, c, about)
		} else {
			refuse(t, m, snap.Save(c), about)
		}
	}
	// A number that is no I32 is no value, though a global takes it.
	for _, n := range []int64{math.MaxInt32 + 1, math.MinInt32 - 1, math.MaxInt64} {
		c := made(t, m)
		c.Inst().Space().SetGlobal(0, i32(n))
		refuse(t, m, snap.Save(c), fmt.Sprint("a global of ", n))
	}
}

// TestErrors holds the errors of run.New ahead of ErrCorrupt.
func TestErrors(t *testing.T) {
	m := world()
	good := snap.Save(made(t, m))
	long, loose := world(), world()
	long.Datas = []api.Data{{Off: 256, Bytes: []byte("a")}}
	loose.Codes[0].Body = nil
	for _, x := range []struct {
		m    api.Module
		want api.Errno
	}{{m, api.OK}, {long, api.ErrRange}, {loose, api.ErrType}} {
		for _, b := range [][]byte{good, nil, {}, {1, 2, 3}, good[1:]} {
			for k, page := range []func(int) []byte{zeros, func(int) []byte { return nil }, nil} {
				want := x.want
				if want == api.OK && (k > 0 || len(b) != len(good)) {
					want = api.ErrCorrupt
				}
				c, err := snap.Load(x.m, b, page)
				if err != want || (c != nil) != (want == api.OK) {
					t.Errorf("P16.1: Load of %x, with the pages %d: got %d, want %d", b, k, err, want)
				}
			}
		}
	}
}

// TestPages holds what page may return, and for which pages it is called.
func TestPages(t *testing.T) {
	m := world()
	c := begun(t, m, 99, "grow")
	c.Inst().Mem().Grow(1)
	b := snap.Save(c)
	for bad := range 3 {
		for _, n := range []int{-1, 0, 1, 255, 257, 512} {
			asked := ""
			d, err := snap.Load(m, b, func(i int) []byte {
				asked += fmt.Sprint(i)
				if i != bad {
					return make([]byte, 256)
				}
				if n < 0 {
					return nil
				}
				return make([]byte, n)
			})
			if d != nil || err != api.ErrCorrupt || asked != "012"[:bad+1] {
				t.Errorf("P16.1: the page %d has %d bytes: got %d; page was called for %s", bad, n, err, asked)
			}
		}
		d, err := snap.Load(m, b, func(i int) []byte {
			if i == bad {
				panic("no such page")
			}
			return make([]byte, 256)
		})
		if d != nil || err != api.ErrCorrupt {
			t.Errorf("P0.1: there is no page %d: %d", bad, err)
		}
	}
	none := bare()
	if d, err := snap.Load(none, snap.Save(made(t, none)), nil); d == nil || err != api.OK {
		t.Errorf("P16.1: a module without a memory: %d", err)
	}
	d, err := snap.Load(m, b, func(i int) []byte { return bytes.Repeat([]byte{byte(i + 1)}, 256) })
	if err != api.OK {
		t.Fatalf("P16.1: Load with other pages: %d", err)
	}
	for i := range 3 {
		if want := bytes.Repeat([]byte{byte(i + 1)}, 256); !bytes.Equal(d.Inst().Mem().Page(i), want) {
			t.Errorf("P16.1: the page %d is %x", i, d.Inst().Mem().Page(i))
		}
	}
}

func TestNil(t *testing.T) {
	if b := snap.Save(nil); len(b) != 0 {
		t.Errorf("P0.1: Save of a nil Machine: %x", b)
	}
	snap.Save(&run.Machine{})
	c := made(t, world())
	for _, s := range []state.State{{}, {Asks: -2}, {Asks: 10001}, {Vals: []api.Val{{}}, Asks: -1}, {Vals: make([]api.Val, 2000)}, {Frames: make([]state.Frame, 33)}, {Frames: []state.Frame{{Pc: -1}}}} {
		for kind := -1; kind < 7; kind++ {
			c.Set(s, api.Outcome{Kind: kind, Trap: -5, Fn: 1 << 60, Vals: make([]api.Val, 100)}, 1<<50, -5, -1i)
			refuse(t, world(), snap.Save(c), fmt.Sprint("no machine at all: ", s))
		}
	}
}
