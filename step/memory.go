package step

import (
	"diapause/api"
	"diapause/ints"
	"diapause/ops"
)

// address takes an address, from which a load or a store counts its offset.
func (t *turn) address(offset int64) int64 {
	return t.takeUnsigned() + offset
}

// load reads from the memory.
func (t *turn) load(i api.Instr) api.Outcome {
	x, ok := t.x.Mem().Load(t.address(i.B), width(i.Op))
	if !ok {
		return trapped(api.TrapBounds)
	}
	n := int64(x)
	switch i.Op {
	case ops.I64Load:
		t.push(ints.Wrap(api.I64, n))
	case ops.I32Load8S:
		t.pushI32(int64(int8(n)))
	default:
		t.pushI32(n)
	}
	return more()
}

// store writes to the memory.
func (t *turn) store(i api.Instr) api.Outcome {
	v := t.take()
	at, n := t.address(i.B), width(i.Op)
	if _, ok := t.x.Mem().Load(at, n); !ok {
		return trapped(api.TrapBounds)
	}
	t.late = func() { t.x.Mem().Store(at, n, uint64(v.N)) }
	return more()
}

// width returns how many bytes a load or a store accesses.
func width(op int) int {
	switch op {
	case ops.I64Load, ops.I64Store:
		return 8
	case ops.I32Load, ops.I32Store:
		return 4
	}
	return 1
}

// pages asks for the memory's size, or lets it grow.
func (t *turn) pages(op int) {
	m := t.x.Mem()
	if op == ops.MemorySize {
		t.pushI32(int64(m.Pages()))
		return
	}
	n := t.takeUnsigned()
	t.due = 1
	t.late = func() { t.pushI32(m.Grow(n)) }
}
