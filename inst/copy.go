package inst

import "diapause/api"

// copied returns a copy of m that shares no list with it.
func copied(m api.Module) api.Module {
	m.Types = copiedEach(m.Types, copiedType)
	m.Imports = copiedList(m.Imports)
	m.Funcs = copiedList(m.Funcs)
	m.Globals = copiedList(m.Globals)
	m.Exports = copiedList(m.Exports)
	m.Elems = copiedEach(m.Elems, copiedElem)
	m.Codes = copiedEach(m.Codes, copiedCode)
	m.Datas = copiedEach(m.Datas, copiedData)
	return m
}

func copiedType(t api.Type) api.Type {
	return api.Type{Params: copiedList(t.Params), Results: copiedList(t.Results)}
}

func copiedElem(e api.Elem) api.Elem {
	e.Funcs = copiedList(e.Funcs)
	return e
}

func copiedCode(c api.Code) api.Code {
	return api.Code{Locals: copiedList(c.Locals), Body: copiedEach(c.Body, copiedInstr)}
}

func copiedInstr(i api.Instr) api.Instr {
	i.L = copiedList(i.L)
	return i
}

func copiedData(d api.Data) api.Data {
	d.Bytes = copiedList(d.Bytes)
	return d
}

// copiedList leaves nothing of an empty list, where slices.Clone would go on to point to where it stood.
func copiedList[E any](l []E) []E {
	return append([]E(nil), l...)
}

// copiedEach copies a list whose items hold lists.
func copiedEach[E any](l []E, item func(E) E) []E {
	out := copiedList(l)
	for k, x := range out {
		out[k] = item(x)
	}
	return out
}
