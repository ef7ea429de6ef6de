package snap_test

import (
	"fmt"
	"math/rand/v2"
	"slices"
	"testing"

	"diapause/api"
	"diapause/ints"
	"diapause/run"
	"diapause/snap"
	"diapause/state"
)

// kindChanges are those by which a value, a local, a Base or a Label is none of what a body leaves.
func kindChanges(s state.State) []change {
	var all []change
	add := func(do func(s *state.State)) {
		all = append(all, change{fmt.Sprint("the change ", len(all)), func(s *state.State, out *api.Outcome) { do(s) }})
	}
	for k, v := range s.Vals {
		add(func(s *state.State) { s.Vals[k] = ints.Wrap(3-v.Kind, v.N) })
	}
	add(func(s *state.State) { s.Vals = append(s.Vals, i32(0)) })
	add(func(s *state.State) { s.Vals = append(s.Vals, i64(0)) })
	for k, f := range s.Frames {
		for i, v := range f.Locals {
			add(func(s *state.State) { s.Frames[k].Locals[i] = ints.Wrap(3-v.Kind, v.N) })
		}
		for i := range f.Labels {
			add(func(s *state.State) { s.Frames[k].Labels[i].At++ })
			add(func(s *state.State) { s.Frames[k].Labels[i].Height++ })
			add(func(s *state.State) { s.Frames[k].Labels = slices.Delete(s.Frames[k].Labels, i, i+1) })
		}
		add(func(s *state.State) { s.Frames[k].Base++ })
		add(func(s *state.State) { s.Frames[k].Locals = append(s.Frames[k].Locals, i32(0)) })
		add(func(s *state.State) { s.Frames[k].Labels = append(s.Frames[k].Labels, state.Label{}) })
	}
	return all
}

// shifted are machines with a Pc, an Fn or an Asks that is another one, which may be one of the module's, or not.
func shifted(r *rand.Rand, m api.Module, c *run.Machine) []byte {
	s, out := c.State(), c.Out()
	if len(s.Frames) > 0 {
		f := &s.Frames[r.IntN(len(s.Frames))]
		switch r.IntN(4) {
		case 0:
			f.Pc = r.IntN(60)
		case 1:
			f.Fn = r.IntN(7)
		case 2:
			s.Frames = s.Frames[1:]
		default:
			s.Frames = s.Frames[:len(s.Frames)-1]
		}
	}
	if r.IntN(3) == 0 {
		s.Asks, out.Fn = r.IntN(4)-1, r.IntN(4)
		out.Kind = r.IntN(6)
	}
	d, _ := run.New(m)
	d.Set(s, out, c.Meter(), c.Calls(), c.Mark())
	return snap.Save(d)
}

// TestWalks holds machines of many modules at many of their steps.
func TestWalks(t *testing.T) {
	r := rand.New(rand.NewPCG(16, 2))
	seen := map[string]int{}
	for k := range 300 {
		m := anyModule(r)
		c, err := run.New(m)
		if err != api.OK {
			seen["not valid"]++
			continue
		}
		w := writer{r: r}
		for _, e := range m.Exports {
			var args []api.Val
			for _, kind := range m.Types[m.Funcs[e.Func-own]].Params {
				args = append(args, ints.Wrap(kind, w.number()))
			}
			if c.Begin(e.Name, args) != api.OK {
				break
			}
			for step := range 60 {
				about := fmt.Sprint("the walk ", k, ", at ", e.Name, " ", step)
				seen[fmt.Sprint("kind ", c.Out().Kind, " ", c.Out().Trap)]++
				d := hold(t, m, c, about)
				if r.IntN(8) == 0 && len(c.State().Frames) > 0 {
					spoiled(t, m, c, about, kindChanges(c.State())...)
				}
				if r.IntN(3) == 0 {
					seen[fmt.Sprint("shifted ", tried(t, m, shifted(r, m, c), about+", shifted"))]++
				}
				if r.IntN(2) == 0 {
					move(c)
					move(d)
					if told(c) != told(d) {
						t.Fatalf("P16.1: %s: a step behind Load: got %s, want %s", about, told(d), told(c))
					}
				}
				if c = d; c.Out().Kind >= api.Done {
					break
				}
				for range r.IntN(4) {
					move(c)
				}
			}
		}
	}
	if seen["not valid"] > 30 {
		t.Errorf("the test itself: %d modules are not valid", seen["not valid"])
	}
	for _, s := range []string{"kind 1 0", "kind 2 0", "kind 3 0", "kind 4 1", "kind 4 2", "kind 4 4", "kind 4 5", "kind 4 6", "kind 5 0", "shifted 0", "shifted 11"} {
		if seen[s] < 5 {
			t.Errorf("the test itself: of %s there are %d", s, seen[s])
		}
	}
}
