package snap

import (
	"slices"

	"diapause/api"
	"diapause/ops"
	"diapause/state"
)

// hasFrames tells whether the Frames, one after the other, and the Vals are such as the functions' bodies leave them.
func (l look) hasFrames() bool {
	if len(l.s.Frames) == 0 || !l.isBegun(l.s.Frames[0].Fn) {
		return false
	}
	var kinds []int // of the Vals, as far as the Frames tell
	for k, f := range l.s.Frames {
		own, ok := l.kindsAt(f, len(kinds))
		if !ok {
			return false
		}
		if callee, ok := l.calleeOf(k); ok {
			typ, ok := l.x.Type(callee)
			if !ok || !l.calls(f, callee, typ) {
				return false
			}
			// The callee's result is not there yet.
			own = own[:len(own)-len(typ.Results)]
		}
		kinds = append(kinds, own...)
	}
	return slices.Equal(kinds, kindsOf(l.s.Vals))
}

// kindsAt returns the kinds of the values that a Frame has on the stack, if it is one of a function of the module, begun when there
// were so many Vals.
func (l look) kindsAt(f state.Frame, base int) ([]int, bool) {
	own := f.Fn - len(l.m.Imports)
	typ, ok := l.x.Type(f.Fn)
	if !ok || own < 0 || f.Pc > len(l.m.Codes[own].Body) || f.Base != base {
		return nil, false
	}
	w := walk{look: l, locals: slices.Concat(typ.Params, l.m.Codes[own].Locals)}
	for at, i := range l.m.Codes[own].Body[:f.Pc] {
		w.pass(at, i)
	}
	if w.dead || !slices.Equal(w.locals, kindsOf(f.Locals)) || !slices.Equal(w.labels(base), f.Labels) {
		return nil, false
	}
	return w.kinds, true
}

// calleeOf returns what the k-th Frame waits for, if it waits for anything: the function of the next one, or an import.
func (l look) calleeOf(k int) (int, bool) {
	if k+1 < len(l.s.Frames) {
		return l.s.Frames[k+1].Fn, true
	}
	return l.s.Asks, l.s.Asks != noAsk
}

// calls tells whether the instruction ahead of the Frame's Pc can have called this function.
func (l look) calls(f state.Frame, callee int, typ api.Type) bool {
	if f.Pc == 0 {
		return false
	}
	i := l.m.Codes[f.Fn-len(l.m.Imports)].Body[f.Pc-1]
	switch i.Op {
	case ops.Call:
		return i.A == int64(callee)
	case ops.CallIndirect:
		named := l.m.Types[i.A]
		return slices.Equal(named.Params, typ.Params) && slices.Equal(named.Results, typ.Results)
	}
	return false
}
