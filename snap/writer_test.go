package snap_test

import (
	"math"
	"math/rand/v2"
	"slices"

	"diapause/api"
	"diapause/ints"
)

// writer writes bodies that are valid, one instruction after the other.
type writer struct {
	r      *rand.Rand
	m      api.Module
	locals []int
	kinds  []int  // of the values on the stack
	open   []open // the blocks that have no end yet; the body is the first
	body   []api.Instr
}

// open is a block, of which op is the opcode by which it, or its else, begins.
type open struct {
	op     int
	result []int
	height int
}

func (w *writer) put(op int, a ...int64) {
	x := api.Instr{Op: op}
	if len(a) > 0 {
		x.A = a[0]
	}
	if len(a) > 1 {
		x.B = a[1]
	}
	w.body = append(w.body, x)
}

func (w *writer) last() *open { return &w.open[len(w.open)-1] }

func (w *writer) number() int64 {
	return []int64{0, 1, 2, 3, 4, 5, -1, 250, 255, 300, math.MaxInt32, math.MinInt32}[w.r.IntN(12)]
}

// want sees to it that values of these kinds lie on top.
func (w *writer) want(kinds ...int) {
	if from := len(w.kinds) - len(kinds); from >= w.last().height && slices.Equal(w.kinds[from:], kinds) {
		return
	}
	for _, kind := range kinds {
		w.value(kind)
	}
}

// value puts a value of this kind on top.
func (w *writer) value(kind int) {
	w.kinds = append(w.kinds, kind)
	if k := slices.Index(w.locals, kind); k >= 0 && w.r.IntN(2) == 0 {
		w.put(0x20, int64(k))
		return
	}
	if k := w.r.IntN(len(w.m.Globals)); w.m.Globals[k].Init.Kind == kind {
		w.put(0x23, int64(k))
		return
	}
	w.put(0x40+kind, w.number())
}

// change takes values of these kinds, which it sees to, and lays others on the stack, by an instruction.
func (w *writer) change(taken, laid []int, op int, a ...int64) {
	w.want(taken...)
	w.kinds = append(w.kinds[:len(w.kinds)-len(taken)], laid...)
	w.put(op, a...)
}

// next puts an instruction, with what it needs.
func (w *writer) next() {
	one := []int{api.I32}
	switch w.r.IntN(14) {
	case 0:
		w.value(1 + w.r.IntN(2))
	case 1, 2:
		w.numeric()
	case 3:
		if k := len(w.locals); k > 0 {
			k = w.r.IntN(k)
			kind := w.locals[k : k+1]
			if w.r.IntN(2) == 0 {
				w.change(kind, nil, 0x21, int64(k))
			} else {
				w.change(kind, kind, 0x22, int64(k))
			}
		}
	case 4:
		w.memory()
	case 5:
		if len(w.kinds) > w.last().height {
			w.kinds = w.kinds[:len(w.kinds)-1]
			w.put(0x1a)
		}
	case 6:
		kind := 1 + w.r.IntN(2)
		w.change([]int{kind, kind, api.I32}, []int{kind}, 0x1b)
	case 7, 8:
		w.begin(0x02 + w.r.IntN(3))
	case 9:
		w.close()
	case 10:
		w.branch()
	case 11, 12:
		w.call()
	default:
		if k := w.r.IntN(2) * 2; w.r.IntN(2) == 0 {
			w.change([]int{w.m.Globals[k].Init.Kind}, nil, 0x24, int64(k))
		} else {
			w.change(one, one, 0x40)
		}
	}
}

func (w *writer) numeric() {
	for {
		op := 0x45 + w.r.IntN(0xad-0x45+1)
		if kinds, result, ok := ints.Kinds(op); ok {
			w.change(kinds, []int{result}, op)
			return
		}
	}
}

func (w *writer) memory() {
	ops := []int{0x28, 0x29, 0x2c, 0x2d, 0x36, 0x37, 0x3a, 0x3f}
	op := ops[w.r.IntN(len(ops))]
	kind := api.I32
	if op == 0x29 || op == 0x37 {
		kind = api.I64
	}
	switch {
	case op == 0x3f:
		w.change(nil, []int{api.I32}, op)
	case op < 0x36:
		w.change([]int{api.I32}, []int{kind}, op, 0, int64(w.r.IntN(300)))
	default:
		w.change([]int{api.I32, kind}, nil, op, 0, int64(w.r.IntN(300)))
	}
}

func (w *writer) begin(op int) {
	if len(w.open) > 8 {
		return
	}
	var result []int
	kind := w.r.IntN(3)
	if kind > 0 {
		result = []int{kind}
	}
	if op == 0x04 {
		w.change([]int{api.I32}, nil, op, int64(kind))
	} else {
		w.put(op, int64(kind))
	}
	w.open = append(w.open, open{op, result, len(w.kinds)})
}

// close ends the innermost block, or its first side.
func (w *writer) close() {
	b := w.last()
	if len(w.open) == 1 {
		return
	}
	if !slices.Equal(w.kinds[b.height:], b.result) {
		for len(w.kinds) > b.height {
			w.kinds = w.kinds[:len(w.kinds)-1]
			w.put(0x1a)
		}
		for _, kind := range b.result {
			w.value(kind)
		}
	}
	w.shut()
}

// shut ends the innermost block where its result lies, or where nothing is reached.
func (w *writer) shut() {
	b := w.last()
	w.kinds = w.kinds[:b.height]
	if b.op == 0x04 && (len(b.result) > 0 || w.r.IntN(2) == 0) {
		b.op = 0x05
		w.put(0x05)
		return
	}
	w.kinds = append(w.kinds, b.result...)
	w.open = w.open[:len(w.open)-1]
	w.put(0x0b)
}

// takes are the kinds that a branch takes to the block that is this far out.
func (w *writer) takes(out int) []int {
	b := w.open[len(w.open)-1-out]
	if b.op == 0x03 {
		return nil
	}
	return b.result
}

func (w *writer) branch() {
	out := w.r.IntN(len(w.open))
	kinds := w.takes(out)
	if len(w.open) == 1 || w.r.IntN(2) == 0 {
		w.change(append(slices.Clone(kinds), api.I32), kinds, 0x0d, int64(out))
		return
	}
	switch w.r.IntN(4) {
	case 0:
		w.change(w.open[0].result, nil, 0x0f)
	case 1:
		w.change(append(slices.Clone(kinds), api.I32), nil, 0x0e, int64(out))
		x := &w.body[len(w.body)-1]
		for k := range w.open {
			if slices.Equal(w.takes(k), kinds) {
				x.L = append(x.L, k)
			}
		}
	case 2:
		w.change(kinds, nil, 0x0c, int64(out))
	default:
		w.put(0x00)
	}
	if w.r.IntN(3) == 0 {
		// What is never reached may take what it wants.
		w.put(0x1a)
		w.put(0x6a)
		w.put(0x02)
		w.put(0x41)
		w.put(0x1a)
		w.put(0x0b)
		w.put(0x1a)
	}
	w.shut()
}

func (w *writer) call() {
	funcs := append([]int{}, 2, 0, 3)
	funcs = append(funcs, w.m.Funcs...)
	f := w.r.IntN(len(funcs))
	typ := w.m.Types[funcs[f]]
	if w.r.IntN(2) == 0 {
		w.change(typ.Params, typ.Results, 0x10, int64(f))
		return
	}
	w.want(typ.Params...)
	w.put(0x41, int64(w.r.IntN(6)))
	w.kinds = append(w.kinds, api.I32)
	w.change(append(slices.Clone(typ.Params), api.I32), typ.Results, 0x11, int64(funcs[f]))
}

// anyModule is one of three functions, which can all be begun.
func anyModule(r *rand.Rand) api.Module {
	m := of(fn{"f", r.IntN(5), "", nil}, fn{"g", r.IntN(5), "", nil}, fn{"h", r.IntN(4), "", nil})
	m.Table.Min = 5
	m.Elems = []api.Elem{{Funcs: []int{r.IntN(6), r.IntN(6), r.IntN(6), r.IntN(6)}}}
	for k := range m.Codes {
		typ := m.Types[m.Funcs[k]]
		var locals []int
		for range r.IntN(4) {
			locals = append(locals, 1+r.IntN(2))
		}
		w := writer{r: r, m: m, locals: slices.Concat(typ.Params, locals), open: []open{{0, typ.Results, 0}}}
		for n := 4 << r.IntN(5); len(w.body) < n; {
			w.next()
		}
		for len(w.open) > 1 {
			w.close()
		}
		for range w.kinds {
			w.put(0x1a)
		}
		w.kinds = nil
		for _, kind := range typ.Results {
			w.value(kind)
		}
		m.Codes[k] = api.Code{Locals: locals, Body: w.body}
	}
	return m
}
