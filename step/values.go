package step

import (
	"slices"

	"diapause/api"
	"diapause/ints"
	"diapause/ops"
)

// push lays a value on the stack.
func (t *turn) push(v api.Val) {
	t.s.Vals = append(t.s.Vals, v)
}

// pushI32 lays an I32 on the stack.
func (t *turn) pushI32(n int64) {
	t.push(ints.Wrap(api.I32, n))
}

// take takes the topmost value.
func (t *turn) take() api.Val {
	top := len(t.s.Vals) - 1
	v := t.s.Vals[top]
	t.s.Vals = t.s.Vals[:top]
	return v
}

// takeLast takes the n topmost values, and returns them as a list of its own.
func (t *turn) takeLast(n int) []api.Val {
	rest := len(t.s.Vals) - n
	last := copied(t.s.Vals[rest:])
	t.s.Vals = t.s.Vals[:rest]
	return last
}

// takeUnsigned takes an I32 as an unsigned number.
func (t *turn) takeUnsigned() int64 {
	return int64(uint32(t.take().N))
}

// keep removes what lies above this height, but not the n topmost values.
func (t *turn) keep(height, n int) {
	t.s.Vals = slices.Delete(t.s.Vals, height, len(t.s.Vals)-n)
}

// choose leaves one of two values.
func (t *turn) choose() {
	c, b, a := t.take(), t.take(), t.take()
	if c.N != 0 {
		t.push(a)
		return
	}
	t.push(b)
}

// local reads or writes a local.
func (t *turn) local(i api.Instr) {
	l := &t.frame().Locals[i.A]
	if i.Op == ops.LocalGet {
		t.push(*l)
		return
	}
	*l = t.take()
	if i.Op == ops.LocalTee {
		t.push(*l)
	}
}

// global reads or writes a global.
func (t *turn) global(i api.Instr) {
	g := int(i.A)
	if i.Op == ops.GlobalGet {
		v, _ := t.x.Space().Global(g)
		t.push(v)
		return
	}
	v := t.take()
	t.late = func() { t.x.Space().SetGlobal(g, v) }
}

// calculate does a numeric instruction.
func (t *turn) calculate(op int) api.Outcome {
	kinds, _, _ := ints.Kinds(op)
	if len(kinds) == 1 {
		v, ok := ints.One(op, t.take())
		if !ok {
			return api.Outcome{}
		}
		t.push(v)
		return more()
	}
	b, a := t.take(), t.take()
	v, trap := ints.Two(op, a, b)
	switch trap {
	case api.TrapNone:
		t.push(v)
		return more()
	case api.TrapZero, api.TrapOver:
		return trapped(trap)
	}
	// The values are of other kinds, as they are in no state that Step has left.
	return api.Outcome{}
}
