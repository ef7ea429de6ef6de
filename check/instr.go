package check

import (
	"slices"

	"diapause/api"
	"diapause/ints"
)

// The opcodes of all instructions but the numeric ones.
const (
	opUnreachable  = 0x00
	opNop          = 0x01
	opBlock        = 0x02
	opLoop         = 0x03
	opIf           = 0x04
	opElse         = 0x05
	opEnd          = 0x0b
	opBr           = 0x0c
	opBrIf         = 0x0d
	opBrTable      = 0x0e
	opReturn       = 0x0f
	opCall         = 0x10
	opCallIndirect = 0x11
	opDrop         = 0x1a
	opSelect       = 0x1b
	opLocalGet     = 0x20
	opLocalSet     = 0x21
	opLocalTee     = 0x22
	opGlobalGet    = 0x23
	opGlobalSet    = 0x24
	opI32Load      = 0x28
	opI64Load      = 0x29
	opI32Load8S    = 0x2c
	opI32Load8U    = 0x2d
	opI32Store     = 0x36
	opI64Store     = 0x37
	opI32Store8    = 0x3a
	opMemorySize   = 0x3f
	opMemoryGrow   = 0x40
	opI32Const     = 0x41
	opI64Const     = 0x42
)

// The greatest alignments, for accesses of 1, 4 and 8 bytes.
const (
	align1 = 0
	align4 = 2
	align8 = 3
)

// pass goes on by an instruction.
func (c *checker) pass(x api.Instr) {
	switch x.Op {
	case opNop:
	case opUnreachable:
		c.leave()
	case opBlock, opLoop, opIf, opElse, opEnd:
		c.nest(x)
	case opBr, opBrIf, opBrTable, opReturn:
		c.branch(x)
	case opCall, opCallIndirect:
		c.call(x)
	case opDrop:
		c.pop()
	case opSelect:
		c.choose()
	case opLocalGet, opLocalSet, opLocalTee:
		c.local(x)
	case opGlobalGet, opGlobalSet:
		c.global(x)
	case opI32Load, opI32Load8S, opI32Load8U, opI64Load, opI32Store, opI32Store8, opI64Store:
		c.access(x)
	case opMemorySize, opMemoryGrow:
		c.pages(x.Op)
	case opI32Const:
		c.push(api.I32)
	case opI64Const:
		c.push(api.I64)
	default:
		c.calculate(x.Op)
	}
}

// nest begins, parts or ends a block.
func (c *checker) nest(x api.Instr) {
	switch x.Op {
	case opIf:
		c.take(api.I32)
		c.begin(x.Op, resultOf(x.A))
	case opElse:
		c.part()
	case opEnd:
		c.end()
	default:
		c.begin(x.Op, resultOf(x.A))
	}
}

// resultOf returns the kinds that a block with this operand leaves.
func resultOf(a int64) []int {
	if a == 0 {
		return nil
	}
	return []int{int(a)}
}

// branch goes out to a block, or to one of several.
func (c *checker) branch(x api.Instr) {
	switch x.Op {
	case opBr:
		c.take(c.label(x.A)...)
		c.leave()
	case opBrIf:
		c.take(api.I32)
		kinds := c.label(x.A)
		c.take(kinds...)
		c.push(kinds...)
	case opBrTable:
		c.take(api.I32)
		kinds := c.label(x.A)
		for _, out := range x.L {
			c.need(slices.Equal(c.label(int64(out)), kinds))
		}
		c.take(kinds...)
		c.leave()
	case opReturn:
		c.take(c.blocks[0].result...)
		c.leave()
	}
}

// call calls a function, or one of a type out of the table.
func (c *checker) call(x api.Instr) {
	var t api.Type
	var ok bool
	if x.Op == opCall {
		t, ok = typeOf(c.m, x.A)
	} else {
		c.need(c.m.Table.Has)
		c.take(api.I32)
		t, ok = at(c.m.Types, x.A)
	}
	c.need(ok)
	c.take(t.Params...)
	c.push(t.Results...)
}

// choose leaves one of two values of one kind.
func (c *checker) choose() {
	c.take(api.I32)
	upper, lower := c.pop(), c.pop()
	c.need(alike(upper, lower))
	// If the upper one may have any kind, there is nothing below it that has a kind of its own.
	c.push(upper)
}

// local reads or writes a local.
func (c *checker) local(x api.Instr) {
	kind, ok := at(c.locals, x.A)
	c.need(ok)
	if x.Op != opLocalGet {
		c.take(kind)
	}
	if x.Op != opLocalSet {
		c.push(kind)
	}
}

// global reads or writes a global.
func (c *checker) global(x api.Instr) {
	g, ok := at(c.m.Globals, x.A)
	c.need(ok)
	if x.Op == opGlobalGet {
		c.push(g.Init.Kind)
		return
	}
	c.need(g.Mut)
	c.take(g.Init.Kind)
}

// access loads or stores.
func (c *checker) access(x api.Instr) {
	kind, most := accessed(x.Op)
	c.need(c.m.Mem.Has)
	c.need(x.A <= most)
	switch x.Op {
	case opI32Store, opI32Store8, opI64Store:
		c.take(api.I32, kind)
	default:
		c.take(api.I32)
		c.push(kind)
	}
}

// accessed returns the kind of what is loaded or stored, and the greatest alignment.
func accessed(op int) (kind int, most int64) {
	switch op {
	case opI64Load, opI64Store:
		return api.I64, align8
	case opI32Load, opI32Store:
		return api.I32, align4
	}
	return api.I32, align1
}

// pages asks for the memory's size, or lets it grow.
func (c *checker) pages(op int) {
	c.need(c.m.Mem.Has)
	if op == opMemoryGrow {
		c.take(api.I32)
	}
	c.push(api.I32)
}

// calculate does a numeric instruction.
func (c *checker) calculate(op int) {
	kinds, result, ok := ints.Kinds(op)
	c.need(ok)
	c.take(kinds...)
	c.push(result)
}
