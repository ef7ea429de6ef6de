package snap

import (
	"slices"

	"diapause/api"
	"diapause/meter"
	"diapause/pack"
	"diapause/run"
	"diapause/state"
)

// parts are what a machine is, beside its module and the contents of its memory.
type parts struct {
	out     api.Outcome
	meter   complex128
	calls   int
	mark    complex128
	state   state.State
	pages   int
	table   []int
	globals []api.Val
}

// partsOf returns the parts of a machine.
func partsOf(c *run.Machine) parts {
	x := c.Inst()
	return parts{
		out: c.Out(), meter: c.Meter(), calls: c.Calls(), mark: c.Mark(), state: c.State(),
		pages: x.Mem().Pages(), table: x.Space().Elems(), globals: x.Space().Globals(),
	}
}

// give makes c a machine of these parts, as far as its instance takes them.
func (p parts) give(c *run.Machine) {
	c.Set(p.state, p.out, p.meter, p.calls, p.mark)
	x := c.Inst()
	x.Mem().Grow(int64(p.pages - x.Mem().Pages()))
	x.Space().SetElems(0, p.table)
	for i, v := range p.globals {
		x.Space().SetGlobal(i, v)
	}
}

// encoded returns the encoding of p. (That of a state that is not valid is none, so that nothing is read from it again.)
func (p parts) encoded() []byte {
	return slices.Concat(
		putOut(p.out), putComplex(p.meter), pack.Number(p.calls), putComplex(p.mark), pack.Bytes(state.Encode(p.state)),
		pack.Number(p.pages), pack.List(p.table, putElem), pack.List(p.globals, pack.Val),
	)
}

func putOut(out api.Outcome) []byte {
	return slices.Concat(pack.Number(out.Kind), pack.Number(out.Trap), pack.Number(out.Fn), pack.List(out.Vals, pack.Val))
}

func putComplex(c complex128) []byte {
	return append(pack.Number(meter.Steps(c)), pack.Number(meter.Bytes(c))...)
}

// putElem encodes an element of a table, which is negative if it is empty.
func putElem(f int) []byte {
	return pack.Signed(int64(f))
}

// read returns the parts whose encoding is b, if there are any, and any parts if there are none.
func read(b []byte) parts {
	r := pack.NewReader(b)
	var p parts
	p.out = getOut(r)
	p.meter = getComplex(r)
	p.calls = r.Number()
	p.mark = getComplex(r)
	p.state, _ = state.Decode(r.Bytes())
	p.pages = r.Number()
	p.table = pack.ListOf(r, api.MaxTable, getElem)
	p.globals = pack.ListOf(r, api.MaxGlobals, (*pack.Reader).Val)
	return p
}

func getOut(r *pack.Reader) api.Outcome {
	var out api.Outcome
	out.Kind = r.Number()
	out.Trap = r.Number()
	out.Fn = r.Number()
	out.Vals = pack.ListOf(r, api.MaxLocals, (*pack.Reader).Val)
	return out
}

func getComplex(r *pack.Reader) complex128 {
	re := r.Number()
	im := r.Number()
	return meter.Of(re, im)
}

func getElem(r *pack.Reader) int {
	return int(r.Signed())
}
