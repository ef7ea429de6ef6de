package step

// The opcodes of all instructions but the numeric ones.
const (
	opUnreachable  = 0x00
	opNop          = 0x01
	opBlock        = 0x02
	opLoop         = 0x03
	opIf           = 0x04
	opElse         = 0x05
	opEnd          = 0x0b
	opBr           = 0x0c
	opBrIf         = 0x0d
	opBrTable      = 0x0e
	opReturn       = 0x0f
	opCall         = 0x10
	opCallIndirect = 0x11
	opDrop         = 0x1a
	opSelect       = 0x1b
	opLocalGet     = 0x20
	opLocalSet     = 0x21
	opLocalTee     = 0x22
	opGlobalGet    = 0x23
	opGlobalSet    = 0x24
	opI32Load      = 0x28
	opI64Load      = 0x29
	opI32Load8S    = 0x2c
	opI32Load8U    = 0x2d
	opI32Store     = 0x36
	opI64Store     = 0x37
	opI32Store8    = 0x3a
	opMemorySize   = 0x3f
	opMemoryGrow   = 0x40
	opI32Const     = 0x41
	opI64Const     = 0x42
)
