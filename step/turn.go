package step

import (
	"diapause/api"
	"diapause/inst"
	"diapause/ints"
	"diapause/ops"
	"diapause/state"
)

// turn is the execution of one instruction, on a copy of the state.
type turn struct {
	x      *inst.Inst
	module api.Module
	s      state.State
	body   []api.Instr // of the function that is running
	at     int         // the index of the instruction
	due    int         // how many values come behind the instruction, as the result of an import does
	late   func()      // what the instruction changes outside of the state; it waits until nothing can stop it
}

// do executes the instruction at the Pc of the last Frame.
func (t *turn) do() api.Outcome {
	out := t.execute(t.fetch())
	switch out.Kind {
	case api.More, api.Asks, api.Done:
		if t.isBeyond() {
			return exhausted()
		}
		if t.late != nil {
			t.late()
		}
	}
	return out
}

// isBeyond tells whether what the instruction leaves is more than there may be.
func (t *turn) isBeyond() bool {
	return len(t.s.Vals)+t.due > api.MaxStack || len(t.s.Frames) > api.MaxDepth
}

// fetch returns the instruction, and leads on to the next one.
func (t *turn) fetch() api.Instr {
	f := t.frame()
	t.body = codeOf(t.module, f.Fn).Body
	t.at = f.Pc
	f.Pc++
	if t.at == len(t.body) {
		// The end of the body does what a return does.
		return api.Instr{Op: ops.Return}
	}
	return t.body[t.at]
}

// frame returns the function that is running, not a copy.
func (t *turn) frame() *state.Frame {
	return &t.s.Frames[len(t.s.Frames)-1]
}

// execute does what the instruction says.
func (t *turn) execute(i api.Instr) api.Outcome {
	far := i.A // of a branch: how far out the block is that it refers to
	switch i.Op {
	case ops.Unreachable:
		return trapped(api.TrapUnreachable)
	case ops.Nop:
	case ops.Block, ops.Loop:
		t.begin()
	case ops.If:
		t.beginIf()
	case ops.Else:
		t.goBehind(t.end())
	case ops.End:
		t.end()
	case ops.Br:
		goto branch
	case ops.BrIf:
		if t.take().N != 0 {
			goto branch
		}
	case ops.BrTable:
		far = picked(i, t.takeUnsigned())
		goto branch
	case ops.Return:
		goto leave
	case ops.Call:
		return t.call(int(i.A))
	case ops.CallIndirect:
		return t.callElem(int(i.A))
	case ops.Drop:
		t.take()
	case ops.Select:
		t.choose()
	case ops.LocalGet, ops.LocalSet, ops.LocalTee:
		t.local(i)
	case ops.GlobalGet, ops.GlobalSet:
		t.global(i)
	case ops.I32Load, ops.I64Load, ops.I32Load8S, ops.I32Load8U:
		return t.load(i)
	case ops.I32Store, ops.I64Store, ops.I32Store8:
		return t.store(i)
	case ops.MemorySize, ops.MemoryGrow:
		t.pages(i.Op)
	case ops.I32Const:
		t.push(ints.Wrap(api.I32, i.A))
	case ops.I64Const:
		t.push(ints.Wrap(api.I64, i.A))
	default:
		return t.calculate(i.Op)
	}
	return more()
branch:
	if far < int64(len(t.frame().Labels)) {
		t.branch(int(far))
		return more()
	}
	// Beyond the outermost block there is the body.
leave:
	return t.leave()
}
