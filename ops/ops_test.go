package ops_test

import (
	"slices"
	"testing"

	"diapause/ints"
	"diapause/ops"
)

// TestAll holds the opcodes against the table of doc/05-instr.md: no two are the same, and none is a numeric one.
func TestAll(t *testing.T) {
	all := []int{ops.Unreachable, ops.Nop, ops.Block, ops.Loop, ops.If, ops.Else, ops.End, ops.Br, ops.BrIf, ops.BrTable, ops.Return, ops.Call, ops.CallIndirect, ops.Drop, ops.Select,
		ops.LocalGet, ops.LocalSet, ops.LocalTee, ops.GlobalGet, ops.GlobalSet, ops.I32Load, ops.I64Load, ops.I32Load8S, ops.I32Load8U, ops.I32Store, ops.I64Store, ops.I32Store8,
		ops.MemorySize, ops.MemoryGrow, ops.I32Const, ops.I64Const}
	want := []int{0x00, 0x01, 0x02, 0x03, 0x04, 0x05, 0x0b, 0x0c, 0x0d, 0x0e, 0x0f, 0x10, 0x11, 0x1a, 0x1b, 0x20, 0x21, 0x22, 0x23, 0x24, 0x28, 0x29, 0x2c, 0x2d, 0x36, 0x37, 0x3a, 0x3f, 0x40, 0x41, 0x42}
	if !slices.Equal(all, want) {
		t.Errorf("P5.1: the opcodes are %x, want %x", all, want)
	}
	for _, op := range all {
		if _, _, ok := ints.Kinds(op); ok {
			t.Errorf("P4.1: %x is a numeric one, too", op)
		}
	}
}
