package snap

import (
	"diapause/api"
	"diapause/ints"
	"diapause/ops"
	"diapause/state"
)

// walk goes through the body of a function, which is valid, and so finds what lies on the stack wherever the function can be.
type walk struct {
	look
	locals []int   // their kinds
	kinds  []int   // of the function's values, the last one on top
	blocks []block // those that have no end yet, the innermost last
	dead   bool    // the function never gets here
}

// block is a block, a loop, or an if.
type block struct {
	at, height int
	result     []int // the kinds of the values that it leaves
	dead       bool  // the function never gets to its beginning
}

// labels returns the Labels of a Frame that began when there were so many Vals.
func (w *walk) labels(base int) []state.Label {
	var l []state.Label
	for _, b := range w.blocks {
		l = append(l, state.Label{At: b.at, Height: base + b.height})
	}
	return l
}

// pass goes on by the instruction at.
func (w *walk) pass(at int, i api.Instr) {
	switch i.Op {
	case ops.Block, ops.Loop:
		w.begin(at, i)
	case ops.If:
		w.change(1)
		w.begin(at, i)
	case ops.Else:
		w.back()
	case ops.End:
		w.back()
		last := len(w.blocks) - 1
		w.change(0, w.blocks[last].result...)
		w.blocks = w.blocks[:last]
	case ops.Unreachable, ops.Br, ops.BrTable, ops.Return:
		w.dead = true
	case ops.Call, ops.CallIndirect:
		w.call(i)
	default:
		w.plain(i)
	}
}

// begin opens a block.
func (w *walk) begin(at int, i api.Instr) {
	b := block{at: at, height: len(w.kinds), dead: w.dead}
	if i.A != 0 {
		b.result = []int{int(i.A)}
	}
	w.blocks = append(w.blocks, b)
}

// back leaves what there was at the beginning of the innermost block.
func (w *walk) back() {
	b := w.blocks[len(w.blocks)-1]
	w.kinds, w.dead = w.kinds[:b.height], b.dead
}

// change takes so many values, and lays values of these kinds on the stack. Where the function never gets, it may find too few of
// them, and does nothing.
func (w *walk) change(taken int, laid ...int) {
	if !w.dead {
		w.kinds = append(w.kinds[:len(w.kinds)-taken], laid...)
	}
}

// call goes on by a call.
func (w *walk) call(i api.Instr) {
	if i.Op == ops.Call {
		typ, _ := w.x.Type(int(i.A))
		w.change(len(typ.Params), typ.Results...)
		return
	}
	typ := w.m.Types[i.A]
	w.change(1+len(typ.Params), typ.Results...)
}

// plain goes on by an instruction that neither goes anywhere nor calls anything.
func (w *walk) plain(i api.Instr) {
	switch i.Op {
	case ops.Nop, ops.LocalTee, ops.MemoryGrow: // the last two leave what they take, or another value of its kind
	case ops.Drop, ops.LocalSet, ops.GlobalSet, ops.BrIf:
		w.change(1)
	case ops.Select: // the value that is left has the kind of the lower one
		w.change(2)
	case ops.LocalGet:
		w.change(0, w.locals[i.A])
	case ops.GlobalGet:
		w.change(0, w.m.Globals[i.A].Init.Kind)
	case ops.I32Load, ops.I32Load8S, ops.I32Load8U:
		w.change(1, api.I32)
	case ops.I64Load:
		w.change(1, api.I64)
	case ops.I32Store, ops.I64Store, ops.I32Store8:
		w.change(2)
	case ops.MemorySize, ops.I32Const:
		w.change(0, api.I32)
	case ops.I64Const:
		w.change(0, api.I64)
	default:
		kinds, result, _ := ints.Kinds(i.Op)
		w.change(len(kinds), result)
	}
}
