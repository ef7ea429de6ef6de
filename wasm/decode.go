package wasm

import (
	"slices"

	"diapause/api"
	"diapause/code"
	"diapause/instr"
	"diapause/leb"
	"diapause/ops"
)

// numberBits are those of the numbers in an encoding.
const numberBits = 32

// read returns the module whose encoding is b, if there is one, and any module if there is none.
func read(b []byte) api.Module {
	r := &reader{rest: b}
	r.pass(len(header))
	var m api.Module
	m.Types = part(r, typeSection, getType)
	m.Imports = part(r, importSection, getImport)
	m.Funcs = part(r, funcSection, getNumber)
	m.Table = first(part(r, tableSection, getTable))
	m.Mem = first(part(r, memSection, getLimits))
	m.Globals = part(r, globalSection, getGlobal)
	m.Exports = part(r, exportSection, getExport)
	m.Elems = part(r, elemSection, getElem)
	m.Codes = part(r, codeSection, getCode)
	m.Datas = part(r, dataSection, getData)
	return m
}

// reader goes through what should be the encoding of a module. It looks at no more than it needs to find that module, as
// all of b is held against the module's encoding afterwards.
type reader struct {
	rest []byte
}

// fail gives up what is left, so that nothing more is read, and all loops end.
func (r *reader) fail() {
	r.rest = nil
}

// take goes on by so many bytes, and returns them.
func (r *reader) take(n int) []byte {
	if n > len(r.rest) {
		r.fail()
		return nil
	}
	b := r.rest[:n]
	r.rest = r.rest[n:]
	return b
}

// pass goes on by so many bytes that tell nothing of the module.
func (r *reader) pass(n int) {
	r.take(n)
}

// one reads a byte.
func (r *reader) one() byte {
	b := r.take(1)
	if len(b) == 0 {
		return 0
	}
	return b[0]
}

// part reads the section of this number, if it comes next.
func part[E any](r *reader, number byte, get func(*reader) E) []E {
	if len(r.rest) == 0 || r.rest[0] != number {
		return nil
	}
	r.pass(1)
	getNumber(r) // of the section's bytes: its list says itself where it ends
	return getVec(r, get)
}

// first returns the limits that a section holds, if there is one.
func first(l []api.Limits) api.Limits {
	if len(l) == 0 {
		return api.Limits{}
	}
	return l[0]
}

func getVec[E any](r *reader, get func(*reader) E) []E {
	count := getNumber(r)
	var l []E
	for len(l) < count && len(r.rest) > 0 {
		l = append(l, get(r))
	}
	return l
}

func getNumber(r *reader) int {
	n, k, err := leb.U(r.rest, numberBits)
	if err != api.OK {
		r.fail()
		return 0
	}
	r.pass(k)
	return int(n)
}

func getType(r *reader) api.Type {
	r.pass(1) // that it is a function's
	var t api.Type
	t.Params = getVec(r, getKind)
	t.Results = getVec(r, getKind)
	return t
}

func getKind(r *reader) int {
	switch r.one() {
	case typeI32:
		return api.I32
	case typeI64:
		return api.I64
	}
	return 0
}

func getImport(r *reader) api.Import {
	var i api.Import
	i.Mod = getName(r)
	i.Name = getName(r)
	r.pass(1) // that it is a function
	i.Type = getNumber(r)
	return i
}

func getName(r *reader) string {
	return string(r.take(getNumber(r)))
}

func getTable(r *reader) api.Limits {
	r.pass(1) // that it is one of functions
	return getLimits(r)
}

func getLimits(r *reader) api.Limits {
	x := api.Limits{Has: true, Max: noMax}
	hasMax := r.one() == withMax
	x.Min = getNumber(r)
	if hasMax {
		x.Max = getNumber(r)
	}
	return x
}

func getGlobal(r *reader) api.Global {
	r.pass(1) // the type, which the constant tells too
	var g api.Global
	g.Mut = r.one() == mutable
	g.Init = getConstant(r)
	return g
}

func getConstant(r *reader) api.Val {
	x, n, err := instr.Get(r.rest)
	if err != api.OK {
		r.fail()
		return api.Val{}
	}
	r.pass(n)
	r.pass(1) // its end
	switch x.Op {
	case ops.I32Const:
		return api.Val{Kind: api.I32, N: x.A}
	case ops.I64Const:
		return api.Val{Kind: api.I64, N: x.A}
	}
	return api.Val{}
}

func getExport(r *reader) api.Export {
	var e api.Export
	e.Name = getName(r)
	r.pass(1) // that it is a function
	e.Func = getNumber(r)
	return e
}

func getElem(r *reader) api.Elem {
	r.pass(1) // the number of the table
	var e api.Elem
	e.Off = getOff(r)
	e.Funcs = getVec(r, getNumber)
	return e
}

func getOff(r *reader) int {
	return int(getConstant(r).N)
}

func getCode(r *reader) api.Code {
	getNumber(r) // of the bytes: its parts say themselves where they end
	var c api.Code
	c.Locals = getLocals(r)
	c.Body = getBody(r)
	return c
}

func getLocals(r *reader) []int {
	var locals []int
	for _, x := range getVec(r, getRun) {
		// A few bytes can tell of more locals than there is memory for.
		if x.count > api.MaxLocals-len(locals) {
			r.fail()
			return nil
		}
		locals = append(locals, slices.Repeat([]int{x.kind}, x.count)...)
	}
	return locals
}

func getRun(r *reader) run {
	var x run
	x.count = getNumber(r)
	x.kind = getKind(r)
	return x
}

func getBody(r *reader) []api.Instr {
	l, n, err := code.Get(r.rest)
	if err != api.OK {
		r.fail()
		return nil
	}
	r.pass(n)
	return l
}

func getData(r *reader) api.Data {
	r.pass(1) // the number of the memory
	var d api.Data
	d.Off = getOff(r)
	d.Bytes = slices.Clone(r.take(getNumber(r)))
	return d
}
