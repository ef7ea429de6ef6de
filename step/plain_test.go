package step_test

import (
	"fmt"
	"maps"
	"slices"
	"testing"

	"diapause/api"
	"diapause/inst"
	"diapause/ints"
	"diapause/state"
	"diapause/step"
)

func kindsOf(op int) ([]int, int, bool) { return ints.Kinds(op) }

func wrapped(kind int, n int64) api.Val { return ints.Wrap(kind, n) }

// calculated is what a numeric instruction makes of its operands, or its trap.
func calculated(op int, operands []api.Val) (api.Val, int) {
	if len(operands) == 1 {
		v, ok := ints.One(op, operands[0])
		if !ok {
			panic("the test itself: no such instruction")
		}
		return v, api.TrapNone
	}
	v, trap := ints.Two(op, operands[0], operands[1])
	if trap < 0 {
		panic("the test itself: no such instruction")
	}
	return v, trap
}

// plain is an instance and a state as the chapters tell them, with all bytes and elements in lists of its own.
type plain struct {
	m       api.Module
	memory  []byte
	touched map[int]int // pages
	table   []int
	globals []api.Val
	s       state.State
}

// stop is panicked with by what can't be executed to its end.
type stop struct{ out api.Outcome }

func newPlain(m api.Module, s state.State) plain {
	p := plain{m: m, memory: make([]byte, m.Mem.Min*256), touched: map[int]int{}, table: slices.Repeat([]int{-1}, m.Table.Min), s: state.Copy(s)}
	for _, g := range m.Globals {
		p.globals = append(p.globals, g.Init)
	}
	for _, e := range m.Elems {
		copy(p.table[e.Off:], e.Funcs)
	}
	for _, d := range m.Datas {
		copy(p.memory[d.Off:], d.Bytes)
	}
	return p
}

// content is what content tells of an instance.
func (p plain) content() string {
	var pages []string
	for at := 0; at < len(p.memory); at += 256 {
		pages = append(pages, string(p.memory[at:at+256]))
	}
	return fmt.Sprintf("%q %v %v %v", pages, slices.Sorted(maps.Keys(p.touched)), p.table, p.globals)
}

// step returns what the step leaves, which is p itself if it does not come to its end.
func (p plain) step() (after plain, out api.Outcome) {
	q := p
	q.memory, q.touched, q.globals, q.s = slices.Clone(p.memory), maps.Clone(p.touched), slices.Clone(p.globals), state.Copy(p.s)
	defer func() {
		if r := recover(); r != nil {
			after, out = p, r.(stop).out
		}
	}()
	out = q.try()
	count := len(q.s.Vals)
	if out.Kind == api.Asks {
		count += len(q.typeOf(out.Fn).Results)
	}
	if count > 1000 || len(q.s.Frames) > 32 {
		return p, api.Outcome{Kind: api.Exhausted}
	}
	return q, out
}

func trap(n int) { panic(stop{api.Outcome{Kind: api.Trapped, Trap: n}}) }

func (p *plain) typeOf(f int) api.Type {
	if f < len(p.m.Imports) {
		return p.m.Types[p.m.Imports[f].Type]
	}
	return p.m.Types[p.m.Funcs[f-len(p.m.Imports)]]
}

// take takes n values, the last one from the top.
func (p *plain) take(n int) []api.Val {
	var l []api.Val
	for range n {
		l = append([]api.Val{p.s.Vals[len(p.s.Vals)-1]}, l...)
		p.s.Vals = p.s.Vals[:len(p.s.Vals)-1]
	}
	return l
}

func (p *plain) push(l ...api.Val) { p.s.Vals = append(p.s.Vals, l...) }

func (p *plain) last() *state.Frame { return &p.s.Frames[len(p.s.Frames)-1] }

func (p *plain) body() []api.Instr {
	return p.m.Codes[p.last().Fn-len(p.m.Imports)].Body
}

// sides are the index behind the else of the block at, or -1, and the index behind its end.
func sides(body []api.Instr, at int) (int, int) {
	other, depth := -1, 0
	for k := at; ; k++ {
		switch body[k].Op {
		case 0x02, 0x03, 0x04:
			depth++
		case 0x05:
			if depth == 1 {
				other = k + 1
			}
		case 0x0b:
			if depth--; depth == 0 {
				return other, k + 1
			}
		}
	}
}

// try does what the instruction says, in whatever order.
func (p *plain) try() api.Outcome {
	f, body := p.last(), p.body()
	if f.Pc == len(body) {
		f.Pc++
		return p.leave()
	}
	at := f.Pc
	i := body[at]
	f.Pc++
	label := state.Label{At: at, Height: len(p.s.Vals)}
	switch i.Op {
	case 0x00:
		trap(1)
	case 0x02, 0x03:
		f.Labels = append(f.Labels, label)
	case 0x04:
		label.Height--
		other, behind := sides(body, at)
		switch {
		case p.take(1)[0] != i32(0):
			f.Labels = append(f.Labels, label)
		case other >= 0:
			f.Labels, f.Pc = append(f.Labels, label), other
		default:
			f.Pc = behind
		}
	case 0x05:
		_, f.Pc = sides(body, f.Labels[len(f.Labels)-1].At)
		f.Labels = f.Labels[:len(f.Labels)-1]
	case 0x0b:
		f.Labels = f.Labels[:len(f.Labels)-1]
	case 0x0c:
		return p.br(int(i.A))
	case 0x0d:
		if p.take(1)[0] != i32(0) {
			return p.br(int(i.A))
		}
	case 0x0e:
		all := append(slices.Clone(i.L), int(i.A))
		return p.br(all[min(uint64(uint32(p.take(1)[0].N)), uint64(len(all)-1))])
	case 0x0f:
		return p.leave()
	case 0x10:
		return p.call(int(i.A))
	case 0x11:
		n := uint32(p.take(1)[0].N)
		if uint64(n) >= uint64(len(p.table)) || p.table[n] < 0 {
			trap(5)
		}
		if a, b := p.typeOf(p.table[n]), p.m.Types[i.A]; !slices.Equal(a.Params, b.Params) || !slices.Equal(a.Results, b.Results) {
			trap(6)
		}
		return p.call(p.table[n])
	default:
		p.simple(i)
	}
	return api.Outcome{Kind: api.More}
}

func (p *plain) br(n int) api.Outcome {
	f, body := p.last(), p.body()
	k := len(f.Labels) - 1 - n
	if k < 0 {
		return p.leave()
	}
	l := f.Labels[k]
	if body[l.At].Op == 0x03 {
		p.s.Vals, f.Labels, f.Pc = p.s.Vals[:l.Height], f.Labels[:k+1], l.At+1
		return api.Outcome{Kind: api.More}
	}
	var result []api.Val
	if body[l.At].A != 0 {
		result = p.take(1)
	}
	p.s.Vals, f.Labels = append(p.s.Vals[:l.Height], result...), f.Labels[:k]
	_, f.Pc = sides(body, l.At)
	return api.Outcome{Kind: api.More}
}

func (p *plain) leave() api.Outcome {
	f := p.last()
	result := p.take(len(p.typeOf(f.Fn).Results))
	p.s.Vals = append(p.s.Vals[:f.Base], result...)
	p.s.Frames = p.s.Frames[:len(p.s.Frames)-1]
	if len(p.s.Frames) == 0 {
		return api.Outcome{Kind: api.Done, Vals: result}
	}
	return api.Outcome{Kind: api.More}
}

func (p *plain) call(f int) api.Outcome {
	args := p.take(len(p.typeOf(f).Params))
	if f < len(p.m.Imports) {
		p.s.Asks = f
		return api.Outcome{Kind: api.Asks, Fn: f, Vals: args}
	}
	for _, kind := range p.m.Codes[f-len(p.m.Imports)].Locals {
		args = append(args, wrapped(kind, 0))
	}
	p.s.Frames = append(p.s.Frames, state.Frame{Fn: f, Locals: args, Base: len(p.s.Vals)})
	return api.Outcome{Kind: api.More}
}

// simple does the instructions that stay within the function.
func (p *plain) simple(i api.Instr) {
	locals := p.last().Locals
	switch i.Op {
	case 0x01:
	case 0x1a:
		p.take(1)
	case 0x1b:
		l := p.take(3)
		p.push(map[bool]api.Val{true: l[0], false: l[1]}[l[2].N != 0])
	case 0x20:
		p.push(locals[i.A])
	case 0x21:
		locals[i.A] = p.take(1)[0]
	case 0x22:
		locals[i.A] = p.s.Vals[len(p.s.Vals)-1]
	case 0x23:
		p.push(p.globals[i.A])
	case 0x24:
		p.globals[i.A] = p.take(1)[0]
	case 0x28, 0x29, 0x2c, 0x2d:
		l := map[int]int{0x28: 4, 0x29: 8}
		p.push(loaded(i.Op, p.memory[p.place(i.B, max(l[i.Op], 1)):]))
	case 0x36, 0x37, 0x3a:
		v := p.take(1)[0]
		n := max(map[int]int{0x36: 4, 0x37: 8}[i.Op], 1)
		at := p.place(i.B, n)
		for k := range n {
			p.memory[at+k] = byte(uint64(v.N) >> (8 * k))
			p.touched[(at+k)/256] = 1
		}
	case 0x3f:
		p.push(i32(int64(len(p.memory) / 256)))
	case 0x40:
		p.grow(uint64(uint32(p.take(1)[0].N)))
	case 0x41:
		p.push(i32(i.A))
	case 0x42:
		p.push(i64(i.A))
	default:
		kinds, _, _ := kindsOf(i.Op)
		v, fault := calculated(i.Op, p.take(len(kinds)))
		if fault != 0 {
			trap(fault)
		}
		p.push(v)
	}
}

// place takes an address, from which n bytes must be there behind the offset.
func (p *plain) place(offset int64, n int) int {
	at := uint64(uint32(p.take(1)[0].N)) + uint64(offset)
	if at+uint64(n) > uint64(len(p.memory)) {
		trap(4)
	}
	return int(at)
}

func (p *plain) grow(n uint64) {
	before := uint64(len(p.memory) / 256)
	most := uint64(16)
	if p.m.Mem.Max >= 0 {
		most = min(most, uint64(p.m.Mem.Max))
	}
	if before+n > most {
		p.push(i32(-1))
		return
	}
	p.memory = append(p.memory, make([]byte, n*256)...)
	for k := before; k < before+n; k++ {
		p.touched[int(k)] = 1
	}
	p.push(i32(int64(before)))
}

// answer ends a request.
func (p *plain) answer(n int64) {
	for _, kind := range p.typeOf(p.s.Asks).Results {
		p.push(wrapped(kind, n))
	}
	p.s.Asks = -1
}

// side executes a step by both, which must do the same, and returns what is told.
func side(t *testing.T, x *inst.Inst, s *state.State, p *plain, about string) string {
	t.Helper()
	was := standing(s)
	q, want := p.step()
	*p = q
	out := step.Step(x, s)
	if told(out) != told(want) || !state.Eq(*s, p.s) || content(x) != p.content() {
		t.Fatalf("P14.2: %s: behind %s: got %s, %v, want %s, %v", about, was, told(out), *s, told(want), p.s)
	}
	return told(out)
}
