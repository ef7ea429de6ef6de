package check

import (
	"slices"

	"diapause/api"
	"diapause/ints"
	"diapause/ops"
)

// The greatest alignments, for accesses of 1, 4 and 8 bytes.
const (
	align1 = 0
	align4 = 2
	align8 = 3
)

// pass goes on by an instruction.
func (c *checker) pass(x api.Instr) {
	switch x.Op {
	case ops.Nop:
	case ops.Unreachable:
		c.leave()
	case ops.Block, ops.Loop, ops.If, ops.Else, ops.End:
		c.nest(x)
	case ops.Br, ops.BrIf, ops.BrTable, ops.Return:
		c.branch(x)
	case ops.Call, ops.CallIndirect:
		c.call(x)
	case ops.Drop:
		c.pop()
	case ops.Select:
		c.choose()
	case ops.LocalGet, ops.LocalSet, ops.LocalTee:
		c.local(x)
	case ops.GlobalGet, ops.GlobalSet:
		c.global(x)
	case ops.I32Load, ops.I32Load8S, ops.I32Load8U, ops.I64Load, ops.I32Store, ops.I32Store8, ops.I64Store:
		c.access(x)
	case ops.MemorySize, ops.MemoryGrow:
		c.pages(x.Op)
	case ops.I32Const:
		c.push(api.I32)
	case ops.I64Const:
		c.push(api.I64)
	default:
		c.calculate(x.Op)
	}
}

// nest begins, parts or ends a block.
func (c *checker) nest(x api.Instr) {
	switch x.Op {
	case ops.If:
		c.take(api.I32)
		c.begin(x.Op, resultOf(x.A))
	case ops.Else:
		c.part()
	case ops.End:
		c.end()
	default:
		c.begin(x.Op, resultOf(x.A))
	}
}

// resultOf returns the kinds that a block with this operand leaves.
func resultOf(a int64) []int {
	if a == 0 {
		return nil
	}
	return []int{int(a)}
}

// branch goes out to a block, or to one of several.
func (c *checker) branch(x api.Instr) {
	switch x.Op {
	case ops.Br:
		c.take(c.label(x.A)...)
		c.leave()
	case ops.BrIf:
		c.take(api.I32)
		kinds := c.label(x.A)
		c.take(kinds...)
		c.push(kinds...)
	case ops.BrTable:
		c.take(api.I32)
		kinds := c.label(x.A)
		for _, out := range x.L {
			c.need(slices.Equal(c.label(int64(out)), kinds))
		}
		c.take(kinds...)
		c.leave()
	case ops.Return:
		c.take(c.blocks[0].result...)
		c.leave()
	}
}

// call calls a function, or one of a type out of the table.
func (c *checker) call(x api.Instr) {
	var t api.Type
	var ok bool
	if x.Op == ops.Call {
		t, ok = typeOf(c.m, x.A)
	} else {
		c.need(c.m.Table.Has)
		c.take(api.I32)
		t, ok = at(c.m.Types, x.A)
	}
	c.need(ok)
	c.take(t.Params...)
	c.push(t.Results...)
}

// choose leaves one of two values of one kind.
func (c *checker) choose() {
	c.take(api.I32)
	upper, lower := c.pop(), c.pop()
	c.need(alike(upper, lower))
	// If the upper one may have any kind, there is nothing below it that has a kind of its own.
	c.push(upper)
}

// local reads or writes a local.
func (c *checker) local(x api.Instr) {
	kind, ok := at(c.locals, x.A)
	c.need(ok)
	if x.Op != ops.LocalGet {
		c.take(kind)
	}
	if x.Op != ops.LocalSet {
		c.push(kind)
	}
}

// global reads or writes a global.
func (c *checker) global(x api.Instr) {
	g, ok := at(c.m.Globals, x.A)
	c.need(ok)
	if x.Op == ops.GlobalGet {
		c.push(g.Init.Kind)
		return
	}
	c.need(g.Mut)
	c.take(g.Init.Kind)
}

// access loads or stores.
func (c *checker) access(x api.Instr) {
	kind, most := accessed(x.Op)
	c.need(c.m.Mem.Has)
	c.need(x.A <= most)
	switch x.Op {
	case ops.I32Store, ops.I32Store8, ops.I64Store:
		c.take(api.I32, kind)
	default:
		c.take(api.I32)
		c.push(kind)
	}
}

// accessed returns the kind of what is loaded or stored, and the greatest alignment.
func accessed(op int) (kind int, most int64) {
	switch op {
	case ops.I64Load, ops.I64Store:
		return api.I64, align8
	case ops.I32Load, ops.I32Store:
		return api.I32, align4
	}
	return api.I32, align1
}

// pages asks for the memory's size, or lets it grow.
func (c *checker) pages(op int) {
	c.need(c.m.Mem.Has)
	if op == ops.MemoryGrow {
		c.take(api.I32)
	}
	c.push(api.I32)
}

// calculate does a numeric instruction.
func (c *checker) calculate(op int) {
	kinds, result, ok := ints.Kinds(op)
	c.need(ok)
	c.take(kinds...)
	c.push(result)
}
