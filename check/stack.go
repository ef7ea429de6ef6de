package check

import (
	"slices"

	"diapause/api"
	"diapause/ops"
)

// anyKind stands for the kind of a value that nothing has pushed, as what takes it is never reached.
const anyKind = -1

// checker goes through a body. Once something is wrong it goes on, but what it finds counts no more.
type checker struct {
	m      api.Module
	locals []int   // their kinds, the parameters first
	stack  []int   // the kinds of the values on it, the last one on top
	blocks []block // those that have no end yet, the innermost last; the body is the first
	bad    bool
}

// block is what is known of a block, a loop, one side of an if, or the body.
type block struct {
	op     int // by which it begins
	result []int
	base   int  // so many values lay on the stack at its beginning, and stay as they are
	dead   bool // nothing is reached any more, up to its else or end
}

// need makes the body a bad one unless ok holds.
func (c *checker) need(ok bool) {
	c.bad = c.bad || !ok
}

// innermost returns the block that has begun last.
func (c *checker) innermost() *block {
	return &c.blocks[len(c.blocks)-1]
}

// push lays values of these kinds on the stack, the last one on top.
func (c *checker) push(kinds ...int) {
	c.stack = append(c.stack, kinds...)
}

// pop takes a value of any kind, and returns which one it has.
func (c *checker) pop() int {
	b := c.innermost()
	top := len(c.stack) - 1
	if top < b.base {
		c.need(b.dead)
		return anyKind
	}
	kind := c.stack[top]
	c.stack = c.stack[:top]
	return kind
}

// take takes values of these kinds, the last one from the top.
func (c *checker) take(kinds ...int) {
	for _, kind := range slices.Backward(kinds) {
		c.need(alike(c.pop(), kind))
	}
}

// alike tells whether two values with these kinds can be of one kind.
func alike(a, b int) bool {
	return a == b || a == anyKind || b == anyKind
}

// begin opens a block with this result.
func (c *checker) begin(op int, result []int) {
	c.blocks = append(c.blocks, block{op: op, result: result, base: len(c.stack)})
}

// close takes the innermost block's result, beside which it may leave nothing, and returns that block.
func (c *checker) close() block {
	b := *c.innermost()
	c.take(b.result...)
	c.need(len(c.stack) == b.base)
	c.blocks = c.blocks[:len(c.blocks)-1]
	return b
}

// part goes over to the other side of an if.
func (c *checker) part() {
	b := c.close()
	c.begin(ops.Else, b.result)
}

// end ends the innermost block.
func (c *checker) end() {
	b := c.close()
	// Where the condition fails, an if without an else leaves no result.
	c.need(b.op != ops.If || len(b.result) == 0)
	c.push(b.result...)
}

// leave says that what stands behind it in the innermost block is not reached.
func (c *checker) leave() {
	b := c.innermost()
	b.dead = true
	c.stack = c.stack[:b.base]
}

// label returns what a branch takes to the block that is this far out.
func (c *checker) label(out int64) []int {
	b, ok := at(c.blocks, int64(len(c.blocks))-1-out)
	c.need(ok)
	if b.op == ops.Loop {
		return nil
	}
	return b.result
}
