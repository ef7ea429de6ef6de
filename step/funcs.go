package step

import (
	"slices"

	"diapause/api"
)

// call calls a function, or asks for an import.
func (t *turn) call(f int) api.Outcome {
	typ, _ := t.x.Type(f)
	args := t.takeLast(len(typ.Params))
	if !t.x.Import(f) {
		return Call(t.x, &t.s, f, args)
	}
	t.s.Asks = f
	t.due = len(typ.Results)
	return api.Outcome{Kind: api.Asks, Fn: f, Vals: args}
}

// callElem calls a function of the table that must have the type of this number.
func (t *turn) callElem(number int) api.Outcome {
	f, ok := t.x.Space().Elem(t.takeUnsigned())
	if !ok {
		return trapped(api.TrapElem)
	}
	typ, ok := t.x.Type(f)
	if !ok || !eqType(typ, t.module.Types[number]) {
		return trapped(api.TrapType)
	}
	return t.call(f)
}

func eqType(a, b api.Type) bool {
	return slices.Equal(a.Params, b.Params) && slices.Equal(a.Results, b.Results)
}

// leave ends the function that is running, and with the last one the run.
func (t *turn) leave() api.Outcome {
	f := *t.frame()
	typ, _ := t.x.Type(f.Fn)
	t.keep(f.Base, len(typ.Results))
	t.s.Frames = t.s.Frames[:len(t.s.Frames)-1]
	if len(t.s.Frames) > 0 {
		return more()
	}
	return api.Outcome{Kind: api.Done, Vals: copied(t.s.Vals[f.Base:])}
}
