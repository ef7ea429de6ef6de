package snap

import (
	"slices"

	"diapause/api"
	"diapause/inst"
	"diapause/ints"
	"diapause/meter"
	"diapause/state"
)

// The greatest numbers of a machine.
const (
	maxBytes = 8 * api.MaxSteps // no step loads or stores more than eight bytes
	maxMark  = 1000002          // of each part of a mark
)

// nothing is the Kind of Out where nothing has been begun.
const nothing = 0

// noAsk is the Asks of a state in which the environment is asked for nothing.
const noAsk = -1

// fit tells whether p can be what a machine of this instance's module is. (The number of its pages, its table and the kinds of its
// globals show when they are given to the instance.)
func (p parts) fit(x *inst.Inst) bool {
	l := look{x: x, m: x.Module(), s: p.state}
	return p.inRange() && all(p.globals, ints.May) && l.goesWith(p.out)
}

// inRange tells whether the numbers are those of a machine.
func (p parts) inRange() bool {
	return within(p.meter, api.MaxSteps, maxBytes) && p.calls <= api.MaxSteps && within(p.mark, maxMark, maxMark)
}

// within tells whether no part is beyond the greatest one. (None is negative, as no negative number is read.)
func within(c complex128, steps, bytes int) bool {
	return meter.Steps(c) <= steps && meter.Bytes(c) <= bytes
}

// all tells whether each element may be there.
func all[E any](l []E, may func(E) bool) bool {
	return !slices.ContainsFunc(l, func(x E) bool { return !may(x) })
}

// look holds a state against a module.
type look struct {
	x *inst.Inst
	m api.Module
	s state.State
}

// goesWith tells whether a machine can have this Outcome along with the state.
func (l look) goesWith(out api.Outcome) bool {
	want := api.Outcome{Kind: out.Kind}
	ok := false
	switch out.Kind {
	case nothing:
		ok = l.isIdle() && len(l.s.Vals) == 0
	case api.More, api.Exhausted:
		ok = l.isBusy()
	case api.Trapped:
		want.Trap = out.Trap
		ok = l.isBusy() && out.Trap >= api.TrapUnreachable && out.Trap <= api.TrapType
	case api.Asks:
		want.Fn, want.Vals = l.s.Asks, out.Vals
		ok = l.isAsking(out.Vals)
	case api.Done:
		want.Vals = l.s.Vals
		ok = l.isIdle() && l.isResult(l.s.Vals)
	}
	return ok && eqOutcome(out, want)
}

func eqOutcome(a, b api.Outcome) bool {
	return a.Kind == b.Kind && a.Trap == b.Trap && a.Fn == b.Fn && slices.Equal(a.Vals, b.Vals)
}

// isIdle tells whether no function is being called.
func (l look) isIdle() bool {
	return len(l.s.Frames) == 0 && l.s.Asks == noAsk
}

// isResult tells whether there is a function that can be begun and has such a result.
func (l look) isResult(vals []api.Val) bool {
	return slices.ContainsFunc(l.m.Exports, func(e api.Export) bool {
		typ, _ := l.x.Type(e.Func)
		return !l.x.Import(e.Func) && slices.Equal(typ.Results, kindsOf(vals))
	})
}

// isBegun tells whether the function can be begun.
func (l look) isBegun(f int) bool {
	return slices.ContainsFunc(l.m.Exports, func(e api.Export) bool { return e.Func == f })
}

// isBusy tells whether functions are being called, and none of them waits for the environment.
func (l look) isBusy() bool {
	return l.s.Asks == noAsk && l.hasFrames()
}

// isAsking tells whether functions are being called, and the last one waits for an import of such arguments.
func (l look) isAsking(args []api.Val) bool {
	if !l.x.Import(l.s.Asks) || !l.hasFrames() {
		return false
	}
	typ, _ := l.x.Type(l.s.Asks)
	return all(args, ints.May) && slices.Equal(typ.Params, kindsOf(args)) && len(l.s.Vals)+len(typ.Results) <= api.MaxStack
}

func kindsOf(vals []api.Val) []int {
	var kinds []int
	for _, v := range vals {
		kinds = append(kinds, v.Kind)
	}
	return kinds
}
