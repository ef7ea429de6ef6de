package step

import (
	"slices"

	"diapause/api"
	"diapause/code"
	"diapause/ops"
	"diapause/state"
)

// noElse is the Else of a block that has none.
const noElse = -1

// begin enters the block that the instruction begins.
func (t *turn) begin() {
	f := t.frame()
	f.Labels = append(f.Labels, state.Label{At: t.at, Height: len(t.s.Vals)})
}

// end leaves the innermost block, and returns where it begins.
func (t *turn) end() int {
	f := t.frame()
	last := len(f.Labels) - 1
	at := f.Labels[last].At
	f.Labels = f.Labels[:last]
	return at
}

// beginIf enters one of the two sides of an if, or neither.
func (t *turn) beginIf() {
	if t.take().N != 0 {
		t.begin()
		return
	}
	b := t.block(t.at)
	if b.Else == noElse {
		t.goBehind(b.At)
		return
	}
	t.begin()
	t.frame().Pc = b.Else + 1
}

// branch goes to the block that is so far out: to the beginning of a loop, and to the end of any other block.
func (t *turn) branch(far int) {
	f := t.frame()
	f.Labels = f.Labels[:len(f.Labels)-far]
	l := f.Labels[len(f.Labels)-1]
	begin := t.body[l.At]
	if begin.Op == ops.Loop {
		t.keep(l.Height, 0)
		f.Pc = l.At + 1
		return
	}
	t.keep(l.Height, results(begin))
	t.goBehind(t.end())
}

// results returns how many values the block leaves that begins with this instruction.
func results(begin api.Instr) int {
	if begin.A == 0 {
		return 0
	}
	return 1
}

// picked returns the operand of a br_table by which the branch goes.
func picked(i api.Instr, n int64) int64 {
	if n < int64(len(i.L)) {
		return int64(i.L[n])
	}
	return i.A
}

// goBehind goes on behind the end of the block that begins there.
func (t *turn) goBehind(at int) {
	t.frame().Pc = t.block(at).End + 1
}

// block returns the block that begins there.
func (t *turn) block(at int) code.Block {
	blocks, _ := code.Match(t.body)
	return blocks[slices.IndexFunc(blocks, func(b code.Block) bool { return b.At == at })]
}
