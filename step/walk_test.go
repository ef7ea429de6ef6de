package step_test

import (
	"fmt"
	"math"
	"math/rand/v2"
	"slices"
	"testing"

	"diapause/api"
	"diapause/code"
	"diapause/inst"
	"diapause/state"
	"diapause/step"
)

// writer writes bodies that are valid.
type writer struct {
	r      *rand.Rand
	types  []api.Type
	funcs  []int // the types of all functions, the imports first
	locals []int
	labels [][]int // what a br takes, the innermost last; the body is the first
	left   int     // so many more instructions shall come
}

type body = []api.Instr

func (w *writer) one(n int) bool { return w.r.IntN(n) == 0 }

func (w *writer) number(kind int) int64 {
	edges := []int64{0, 1, 2, 3, -1, 7, 250, 254, 255, 256, 508, 511, 512, math.MaxInt32, math.MinInt32}
	if kind == api.I64 {
		edges = append(edges, math.MaxInt64, math.MinInt64, 1<<32)
	}
	if w.one(4) {
		return wrapped(kind, int64(w.r.Uint64())).N
	}
	return edges[w.r.IntN(len(edges))]
}

func (w *writer) constant(kind int) body {
	return body{{Op: 0x40 + kind, A: w.number(kind)}}
}

// all are the values of these kinds, one behind the other.
func (w *writer) all(kinds []int) body {
	var b body
	for _, k := range kinds {
		b = append(b, w.value(k)...)
	}
	return b
}

// pick is the index of one of several of a kind, or -1.
func (w *writer) pick(kinds []int, kind int) int64 {
	var l []int
	for k, x := range kinds {
		if x == kind {
			l = append(l, k)
		}
	}
	if len(l) == 0 {
		return -1
	}
	return int64(l[w.r.IntN(len(l))])
}

var globalKinds = []int{api.I32, api.I64, api.I64, api.I32}

// value pushes one of this kind.
func (w *writer) value(kind int) body {
	w.left--
	if w.left <= 0 {
		return w.constant(kind)
	}
	switch w.r.IntN(16) {
	case 0, 1:
		return w.constant(kind)
	case 2, 3:
		if k := w.pick(w.locals, kind); k >= 0 {
			return body{{Op: 0x20, A: k}}
		}
	case 4:
		if k := w.pick(w.locals, kind); k >= 0 {
			return append(w.value(kind), api.Instr{Op: 0x22, A: k})
		}
	case 5:
		return body{{Op: 0x23, A: w.pick(globalKinds, kind)}}
	case 6, 7, 8:
		return w.numeric(kind)
	case 9:
		return append(w.all([]int{kind, kind, api.I32}), api.Instr{Op: 0x1b})
	case 10:
		return w.load(kind)
	case 11:
		if kind == api.I32 && w.one(2) {
			return body{{Op: 0x3f}}
		}
		if kind == api.I32 {
			return append(body{{Op: 0x41, A: int64(w.r.IntN(4) - 1)}}, api.Instr{Op: 0x40})
		}
	case 12, 13:
		return w.block([]int{kind})
	default:
		return w.call([]int{kind})
	}
	return w.constant(kind)
}

func (w *writer) numeric(kind int) body {
	if w.one(30) {
		// The least number by -1, which hardly ever comes about.
		least := map[int]api.Instr{api.I32: {Op: 0x41, A: math.MinInt32}, api.I64: {Op: 0x42, A: math.MinInt64}}[kind]
		return body{least, {Op: 0x40 + kind, A: -1}, {Op: map[int]int{api.I32: 0x6d, api.I64: 0x7f}[kind] + 2*w.r.IntN(2)}}
	}
	for {
		op := 0x45 + w.r.IntN(0xad-0x45+1)
		if kinds, result, ok := kindsOf(op); ok && result == kind {
			return append(w.all(kinds), api.Instr{Op: op})
		}
	}
}

func (w *writer) offset() int64 {
	if w.one(3) {
		return []int64{1, 255, 256, 500, 1<<32 - 1}[w.r.IntN(5)]
	}
	return 0
}

func (w *writer) address() body {
	if w.one(3) {
		return w.value(api.I32)
	}
	return body{{Op: 0x41, A: int64(w.r.IntN(540))}}
}

func (w *writer) load(kind int) body {
	op := 0x29
	if kind == api.I32 {
		op = []int{0x28, 0x2c, 0x2d}[w.r.IntN(3)]
	}
	return append(w.address(), api.Instr{Op: op, B: w.offset()})
}

func (w *writer) store() body {
	op := []int{0x36, 0x37, 0x3a}[w.r.IntN(3)]
	kind := api.I32
	if op == 0x37 {
		kind = api.I64
	}
	return append(append(w.address(), w.value(kind)...), api.Instr{Op: op, B: w.offset()})
}

// block is a block, a loop or an if.
func (w *writer) block(result []int) body {
	if len(w.labels) > 8 {
		return w.all(result)
	}
	begin := api.Instr{Op: 0x02 + w.r.IntN(3)}
	if len(result) > 0 {
		begin.A = int64(result[0])
	}
	var b body
	if begin.Op == 0x04 {
		b = w.value(api.I32)
	}
	takes := result
	if begin.Op == 0x03 {
		takes = nil
	}
	w.labels = append(w.labels, takes)
	b = append(append(b, begin), w.inside(result)...)
	if begin.Op == 0x04 && (len(result) > 0 || w.one(2)) {
		b = append(append(b, api.Instr{Op: 0x05}), w.inside(result)...)
	}
	w.labels = w.labels[:len(w.labels)-1]
	return append(b, api.Instr{Op: 0x0b})
}

// inside is what a block holds: some of what leaves nothing, and then its result.
func (w *writer) inside(result []int) body {
	var b body
	for w.r.IntN(3) > 0 && w.left > 0 {
		b = append(b, w.nothing()...)
	}
	return append(b, w.all(result)...)
}

// call calls a function of this result, by the table or not.
func (w *writer) call(result []int) body {
	w.left -= 3
	number := w.r.IntN(len(w.types))
	if w.one(2) && slices.Equal(w.types[number].Results, result) {
		b := append(w.all(w.types[number].Params), api.Instr{Op: 0x41, A: int64(w.r.IntN(9) - 1)})
		return append(b, api.Instr{Op: 0x11, A: int64(number)})
	}
	f := w.r.IntN(len(w.funcs))
	typ := w.types[w.funcs[f]]
	if !slices.Equal(typ.Results, result) {
		return w.all(result)
	}
	return append(w.all(typ.Params), api.Instr{Op: 0x10, A: int64(f)})
}

// drops takes so many values.
func drops(n int) body { return slices.Repeat(body{{Op: 0x1a}}, n) }

// nothing leaves nothing.
func (w *writer) nothing() body {
	w.left--
	switch w.r.IntN(14) {
	case 0:
		return body{{Op: 0x01}}
	case 1:
		return append(w.value(1+w.r.IntN(2)), drops(1)...)
	case 2, 3:
		if len(w.locals) > 0 {
			k := w.r.IntN(len(w.locals))
			return append(w.value(w.locals[k]), api.Instr{Op: 0x21, A: int64(k)})
		}
	case 4:
		k := 2 * w.r.IntN(2)
		return append(w.value(globalKinds[k]), api.Instr{Op: 0x24, A: int64(k)})
	case 5, 6:
		return w.store()
	case 7, 8:
		return w.block(nil)
	case 9:
		return w.call(nil)
	default:
		return w.jump()
	}
	return nil
}

// jump is a branch, with something left below what it takes.
func (w *writer) jump() body {
	below := slices.Repeat([]int{1 + w.r.IntN(2)}, w.r.IntN(3))
	b := w.all(below)
	out := w.r.IntN(len(w.labels))
	takes := w.labels[len(w.labels)-1-out]
	switch w.r.IntN(9) {
	case 0:
		return append(append(b, w.all(takes)...), api.Instr{Op: 0x0c, A: int64(out)})
	case 1:
		return append(append(b, w.all(w.labels[0])...), api.Instr{Op: 0x0f})
	case 2, 3:
		b = append(append(b, w.all(takes)...), w.value(api.I32)...)
		x := api.Instr{Op: 0x0e, A: int64(out)}
		for range w.r.IntN(6) {
			if k := w.r.IntN(len(w.labels)); slices.Equal(w.labels[len(w.labels)-1-k], takes) {
				x.L = append(x.L, k)
			}
		}
		return append(b, x)
	case 4:
		if w.one(4) {
			return append(b, api.Instr{Op: 0x00})
		}
	}
	b = append(append(append(b, w.all(takes)...), w.value(api.I32)...), api.Instr{Op: 0x0d, A: int64(out)})
	return append(b, drops(len(takes)+len(below))...)
}

// anyModule is one of three functions.
func anyModule(r *rand.Rand) api.Module {
	m := of()
	m.Funcs = []int{r.IntN(6), r.IntN(6), r.IntN(7)}
	funcs := []int{2, 0, 3, 1}
	funcs = append(funcs, m.Funcs...)
	m.Elems = []api.Elem{{Off: r.IntN(2), Funcs: []int{r.IntN(7), r.IntN(7), r.IntN(7), r.IntN(7)}}}
	for _, kind := range m.Funcs {
		typ := m.Types[kind]
		var c api.Code
		for range r.IntN(4) {
			c.Locals = append(c.Locals, 1+r.IntN(2))
		}
		w := writer{r: r, types: m.Types, funcs: funcs, locals: slices.Concat(typ.Params, c.Locals), labels: [][]int{typ.Results}, left: 5 << r.IntN(5)}
		c.Body = w.inside(typ.Results)
		m.Codes = append(m.Codes, c)
	}
	return m
}

// met counts what a walk comes by, by its name.
type met map[string]int

// walk goes through a function by both, and holds the Labels against the blocks that package code finds around.
func walk(t *testing.T, r *rand.Rand, m api.Module, x *inst.Inst, seen met, about string) {
	typ := m.Types[m.Funcs[0]]
	w := writer{r: r}
	var args []api.Val
	for _, kind := range typ.Params {
		args = append(args, wrapped(kind, w.number(kind)))
	}
	s := begun(t, x, args...)
	p := newPlain(m, *s)
	for range 300 {
		f := s.Frames[len(s.Frames)-1]
		text := m.Codes[f.Fn-len(m.Imports)].Body
		op := -1
		if f.Pc < len(text) {
			op = text[f.Pc].Op
			holdLabels(t, f, text, about)
		}
		out := side(t, x, s, &p, about)
		kind := out[:4]
		if kind == "trap" || kind == "exha" {
			kind = out
		}
		seen[kind]++
		if kind == "more" || kind == "asks" || kind == "done" {
			seen[fmt.Sprintf("op %x", op)]++
		}
		if kind == "asks" {
			n := int64(r.Uint64())
			p.answer(n)
			if !step.Answer(x, s, n) || !state.Eq(*s, p.s) {
				t.Fatalf("P14.1: %s: Answer: got %v, want %v", about, *s, p.s)
			}
		} else if kind != "more" {
			return
		}
	}
	seen["going on"]++
}

// holdLabels holds the Labels of f against the blocks around its Pc, to which the one that an else or an end belongs to is added.
func holdLabels(t *testing.T, f state.Frame, text body, about string) {
	t.Helper()
	around := code.Targets(text, f.Pc)
	slices.Reverse(around)
	if op := text[f.Pc].Op; op == 0x05 || op == 0x0b {
		blocks, _ := code.Match(text)
		for _, b := range blocks {
			if b.Else == f.Pc || b.End == f.Pc {
				around = append(around, b.At)
			}
		}
	}
	var ats []int
	for _, l := range f.Labels {
		ats = append(ats, l.At)
	}
	if !slices.Equal(ats, around) {
		t.Fatalf("P14.2: %s: at %d the Labels are %v, and the blocks around %v", about, f.Pc, ats, around)
	}
}

// TestWalks holds many modules, step by step, against the plain reading.
func TestWalks(t *testing.T) {
	r := rand.New(rand.NewPCG(14, 2))
	seen := met{}
	for k := range 3000 {
		m := anyModule(r)
		x, err := inst.New(m)
		if err != api.OK {
			seen["not valid"]++
			continue
		}
		walk(t, r, m, x, seen, fmt.Sprint("the walk ", k))
	}
	if seen["not valid"] > 600 {
		t.Errorf("the test itself: %d modules are not valid", seen["not valid"])
	}
	for _, s := range []string{"trap 1", "trap 2", "trap 3", "trap 4", "trap 5", "trap 6", "done", "asks", "exhausted", "going on"} {
		if seen[s] < 5 {
			t.Errorf("the test itself: of %s there are %d", s, seen[s])
		}
	}
	for op := -1; op < 256; op++ {
		_, _, numeric := kindsOf(op)
		other := op == -1 || op > 0x00 && op <= 0x05 || op >= 0x0b && op <= 0x11 || op == 0x1a || op == 0x1b || op >= 0x20 && op <= 0x24 ||
			slices.Contains([]int{0x28, 0x29, 0x2c, 0x2d, 0x36, 0x37, 0x3a}, op) || op >= 0x3f && op <= 0x42
		if name := fmt.Sprintf("op %x", op); (numeric || other) && seen[name] < 10 {
			t.Errorf("the test itself: of %s there are %d", name, seen[name])
		}
	}
}
