package wasm

import (
	"slices"

	"diapause/api"
	"diapause/code"
	"diapause/instr"
	"diapause/leb"
	"diapause/ops"
)

// encoded returns the encoding of m, of whatever length, if all that m has may be there.
func encoded(m api.Module) []byte {
	return slices.Concat(
		[]byte(header),
		section(typeSection, m.Types, putType),
		section(importSection, m.Imports, putImport),
		section(funcSection, m.Funcs, putNumber),
		section(tableSection, present(m.Table), putTable),
		section(memSection, present(m.Mem), putLimits),
		section(globalSection, m.Globals, putGlobal),
		section(exportSection, m.Exports, putExport),
		section(elemSection, m.Elems, putElem),
		section(codeSection, m.Codes, putCode),
		section(dataSection, m.Datas, putData),
	)
}

// section encodes a list as the section of this number; there is none of an empty list.
func section[E any](number byte, l []E, put func(E) []byte) []byte {
	if len(l) == 0 {
		return nil
	}
	return slices.Concat([]byte{number}, sized(vec(l, put)))
}

// present makes limits a list, as a section holds one.
func present(x api.Limits) []api.Limits {
	if !x.Has {
		return nil
	}
	return []api.Limits{x}
}

// vec encodes a list, behind the number of its elements.
func vec[E any](l []E, put func(E) []byte) []byte {
	out := putNumber(len(l))
	for _, x := range l {
		out = append(out, put(x)...)
	}
	return out
}

// sized returns b, behind the number of its bytes.
func sized(b []byte) []byte {
	return slices.Concat(putNumber(len(b)), b)
}

func putNumber(n int) []byte {
	return leb.PutU(nil, uint64(n))
}

func putType(t api.Type) []byte {
	return slices.Concat([]byte{funcForm}, vec(t.Params, putKind), vec(t.Results, putKind))
}

func putKind(kind int) []byte {
	if kind == api.I64 {
		return []byte{typeI64}
	}
	return []byte{typeI32}
}

func putImport(i api.Import) []byte {
	return slices.Concat(putName(i.Mod), putName(i.Name), []byte{isFunc}, putNumber(i.Type))
}

func putName(s string) []byte {
	return sized([]byte(s))
}

func putTable(x api.Limits) []byte {
	return slices.Concat([]byte{tableForm}, putLimits(x))
}

func putLimits(x api.Limits) []byte {
	if x.Max == noMax {
		return slices.Concat([]byte{withoutMax}, putNumber(x.Min))
	}
	return slices.Concat([]byte{withMax}, putNumber(x.Min), putNumber(x.Max))
}

func putGlobal(g api.Global) []byte {
	return slices.Concat(putKind(g.Init.Kind), putMut(g.Mut), putConstant(g.Init))
}

func putMut(mut bool) []byte {
	if mut {
		return []byte{mutable}
	}
	return []byte{immutable}
}

func putConstant(v api.Val) []byte {
	op := ops.I32Const
	if v.Kind == api.I64 {
		op = ops.I64Const
	}
	return append(instr.Put(nil, api.Instr{Op: op, A: v.N}), ops.End)
}

func putExport(e api.Export) []byte {
	return slices.Concat(putName(e.Name), []byte{isFunc}, putNumber(e.Func))
}

func putElem(e api.Elem) []byte {
	return slices.Concat([]byte{firstOne}, putOff(e.Off), vec(e.Funcs, putNumber))
}

func putOff(off int) []byte {
	return putConstant(api.Val{Kind: api.I32, N: int64(off)})
}

func putCode(c api.Code) []byte {
	return sized(slices.Concat(vec(runs(c.Locals), putRun), code.Put(nil, c.Body)))
}

// run is a number of locals of one kind that stand behind one another.
type run struct {
	count, kind int
}

// runs divides locals into as few runs as possible.
func runs(locals []int) []run {
	var l []run
	for _, kind := range locals {
		last := len(l) - 1
		if last >= 0 && l[last].kind == kind {
			l[last].count++
		} else {
			l = append(l, run{count: 1, kind: kind})
		}
	}
	return l
}

func putRun(x run) []byte {
	return slices.Concat(putNumber(x.count), putKind(x.kind))
}

func putData(d api.Data) []byte {
	return slices.Concat([]byte{firstOne}, putOff(d.Off), sized(d.Bytes))
}
