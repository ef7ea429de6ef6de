package wasm

import (
	"math"

	"diapause/api"
	"diapause/code"
	"diapause/instr"
	"diapause/ints"
)

// The ranges that package api does not name.
const (
	maxResults   = 1
	maxNumber    = 1000 // of types and functions
	maxTableMax  = 1000
	maxMemMax    = 65536
	maxElemFuncs = 50
	maxDataBytes = 1000
	firstPlain   = 32 // of the bytes of names
	lastPlain    = 126
)

// mayCounts tells whether m has no more of anything than a module may have.
func mayCounts(m api.Module) bool {
	return len(m.Types) <= api.MaxTypes &&
		len(m.Imports)+len(m.Funcs) <= api.MaxFuncs &&
		len(m.Globals) <= api.MaxGlobals &&
		len(m.Exports) <= api.MaxExports &&
		len(m.Elems) <= api.MaxParts &&
		len(m.Datas) <= api.MaxParts &&
		len(m.Codes) == len(m.Funcs)
}

// mayParts tells whether all that m has may be there.
func mayParts(m api.Module) bool {
	return all(m.Types, mayType) &&
		all(m.Imports, mayImport) &&
		all(m.Funcs, mayNumber) &&
		mayLimits(m.Table, api.MaxTable, maxTableMax) &&
		mayLimits(m.Mem, api.MaxPages, maxMemMax) &&
		all(m.Globals, mayGlobal) &&
		all(m.Exports, mayExport) &&
		all(m.Elems, mayElem) &&
		all(m.Codes, mayCode) &&
		all(m.Datas, mayData)
}

// all tells whether each element may be there.
func all[E any](l []E, may func(E) bool) bool {
	for _, x := range l {
		if !may(x) {
			return false
		}
	}
	return true
}

func mayType(t api.Type) bool {
	return len(t.Params) <= api.MaxLocals && len(t.Results) <= maxResults && all(t.Params, mayKind) && all(t.Results, mayKind)
}

func mayKind(kind int) bool {
	return kind == api.I32 || kind == api.I64
}

func mayImport(i api.Import) bool {
	return mayName(i.Mod) && mayName(i.Name) && mayNumber(i.Type)
}

func mayName(s string) bool {
	return len(s) >= 1 && len(s) <= api.MaxName && all([]byte(s), mayByte)
}

func mayByte(b byte) bool {
	return b >= firstPlain && b <= lastPlain
}

func mayNumber(n int) bool {
	return n >= 0 && n <= maxNumber
}

// mayLimits tells whether x may be the limits of what has at most such a Min and such a Max.
func mayLimits(x api.Limits, mostMin, mostMax int) bool {
	if !x.Has {
		return x == api.Limits{}
	}
	return x.Min >= 0 && x.Min <= mostMin && x.Max >= noMax && x.Max <= mostMax
}

func mayGlobal(g api.Global) bool {
	return ints.May(g.Init)
}

func mayExport(e api.Export) bool {
	return mayName(e.Name) && mayNumber(e.Func)
}

func mayElem(e api.Elem) bool {
	return mayOff(e.Off) && len(e.Funcs) <= maxElemFuncs && all(e.Funcs, mayNumber)
}

func mayOff(off int) bool {
	return off >= math.MinInt32 && off <= math.MaxInt32
}

func mayCode(c api.Code) bool {
	return len(c.Locals) <= api.MaxLocals && all(c.Locals, mayKind) && mayBody(c.Body)
}

func mayBody(l []api.Instr) bool {
	_, ok := code.Match(l)
	return ok && all(l, instr.May)
}

func mayData(d api.Data) bool {
	return mayOff(d.Off) && len(d.Bytes) <= maxDataBytes
}
