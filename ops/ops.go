// Package ops names the opcodes of all instructions but the numeric ones, which package ints knows.
package ops

const (
	Unreachable  = 0x00
	Nop          = 0x01
	Block        = 0x02
	Loop         = 0x03
	If           = 0x04
	Else         = 0x05
	End          = 0x0b
	Br           = 0x0c
	BrIf         = 0x0d
	BrTable      = 0x0e
	Return       = 0x0f
	Call         = 0x10
	CallIndirect = 0x11
	Drop         = 0x1a
	Select       = 0x1b
	LocalGet     = 0x20
	LocalSet     = 0x21
	LocalTee     = 0x22
	GlobalGet    = 0x23
	GlobalSet    = 0x24
	I32Load      = 0x28
	I64Load      = 0x29
	I32Load8S    = 0x2c
	I32Load8U    = 0x2d
	I32Store     = 0x36
	I64Store     = 0x37
	I32Store8    = 0x3a
	MemorySize   = 0x3f
	MemoryGrow   = 0x40
	I32Const     = 0x41
	I64Const     = 0x42
)
