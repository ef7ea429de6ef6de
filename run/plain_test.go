package run_test

import (
	"fmt"
	"math"
	"math/rand/v2"
	"slices"
	"testing"

	"diapause/api"
	"diapause/inst"
	"diapause/ints"
	"diapause/meter"
	"diapause/run"
	"diapause/state"
	"diapause/step"
)

// plain is a machine as the chapter tells it, with its sums as integers.
type plain struct {
	m                   api.Module
	x                   *inst.Inst
	s                   state.State
	out                 api.Outcome
	steps, bytes, calls int
	mark                [2]int
}

func newPlain(m api.Module) *plain {
	x, _ := inst.New(m)
	return &plain{m: m, x: x, s: state.State{Asks: -1}}
}

// told is what told tells of a machine.
func (p *plain) told() string {
	return fmt.Sprint(p.out, meter.Of(p.steps, p.bytes), p.calls, meter.Of(p.mark[0], p.mark[1]), p.s, content(p.x))
}

func (p *plain) begin(name string, args []api.Val) api.Errno {
	k := slices.IndexFunc(p.m.Exports, func(e api.Export) bool { return e.Name == name })
	if k < 0 {
		return api.ErrNone
	}
	f := p.m.Exports[k].Func
	if f < len(p.m.Imports) {
		return api.ErrType
	}
	params := p.m.Types[p.m.Funcs[f-len(p.m.Imports)]].Params
	if len(params) != len(args) {
		return api.ErrType
	}
	for i, v := range args {
		if v.Kind != params[i] || !ints.May(v) {
			return api.ErrType
		}
	}
	if p.out.Kind == api.More || p.out.Kind == api.Asks {
		return api.ErrBusy
	}
	p.s = state.State{Asks: -1}
	p.out = step.Call(p.x, &p.s, f, args)
	return api.OK
}

// next is the opcode of the next instruction, of a nop at the end of a body.
func (p *plain) next() int {
	f := p.s.Frames[len(p.s.Frames)-1]
	body := p.m.Codes[f.Fn-len(p.m.Imports)].Body
	if f.Pc == len(body) {
		return 0x01
	}
	return body[f.Pc].Op
}

func (p *plain) run(n int) {
	for ; n > 0 && p.out.Kind == api.More; n-- {
		if p.steps == 1000000 {
			p.out = api.Outcome{Kind: api.Exhausted}
			return
		}
		p.steps++
		p.bytes += map[int]int{0x28: 4, 0x36: 4, 0x29: 8, 0x37: 8, 0x2c: 1, 0x2d: 1, 0x3a: 1}[p.next()]
		p.out = step.Step(p.x, &p.s)
	}
}

func (p *plain) answer(n int64) api.Errno {
	if p.out.Kind != api.Asks {
		return api.ErrNone
	}
	rest := func(n int) int { return (n%1000003 + 1000003) % 1000003 }
	re, im := p.mark[0], p.mark[1]
	p.mark = [2]int{rest(re - 2*im + p.s.Asks + 1), rest(im + 2*re + rest(int(n)))}
	p.calls++
	step.Answer(p.x, &p.s, n)
	p.out = api.Outcome{Kind: api.More}
	return api.OK
}

// anyCall is a random call of a function, which fits in most cases.
func anyCall(r *rand.Rand) (string, []api.Val) {
	name := append([]string{"none"}, names...)[r.IntN(len(names)+1)]
	var args []api.Val
	switch name {
	case "sum", "ask":
		args = []api.Val{i32(int64(r.IntN(5)))}
	case "mixed":
		args = []api.Val{i64(int64(r.Uint64())), i32(int64(int32(r.Uint64())))}
	case "away", "through":
		args = []api.Val{i32(int64(r.IntN(8)) - 1)}
	}
	switch r.IntN(20) {
	case 0:
		args = append(args, i32(1))
	case 1:
		args = args[:len(args)/2]
	case 2:
		args = []api.Val{i32(math.MaxInt32 + 1)}
	}
	return name, args
}

// mover makes the same calls of a machine and of the plain one.
type mover struct {
	t     *testing.T
	r     *rand.Rand
	c     *run.Machine
	p     *plain
	about string
	seen  map[string]int
}

func (w *mover) hold(what string, got, want any) {
	w.t.Helper()
	if fmt.Sprint(got) != fmt.Sprint(want) || told(w.c) != w.p.told() {
		w.t.Fatalf("P15.1: %s: %s: got %v, %s, want %v, %s", w.about, what, got, told(w.c), want, w.p.told())
	}
	w.seen[fmt.Sprint(what, " ", got)]++
}

func (w *mover) move() {
	switch w.r.IntN(10) {
	case 0, 1, 2:
		name, args := anyCall(w.r)
		w.hold("Begin", w.c.Begin(name, args), w.p.begin(name, args))
	case 3, 4:
		n := []int64{0, -1, math.MinInt64, math.MaxInt64, int64(w.r.Uint64()), 3}[w.r.IntN(6)]
		w.hold("Answer", w.c.Answer(n), w.p.answer(n))
	case 5:
		if w.r.IntN(8) > 0 {
			return
		}
		// Close to the last step there may be.
		w.p.steps = 1000000 - w.r.IntN(40)
		w.c.Set(w.c.State(), w.c.Out(), meter.Of(w.p.steps, w.p.bytes), w.c.Calls(), w.c.Mark())
		w.hold("Set", 0, 0)
	case 6:
		other := i32(int64(w.r.IntN(9)))
		w.c.Inst().Space().SetGlobal(0, other)
		w.p.x.Space().SetGlobal(0, other)
	default:
		n := []int{0, -1, 1, 2, 3, 10, 100, math.MinInt}[w.r.IntN(8)]
		out := w.c.Go(n)
		w.p.run(n)
		w.hold("Go", out, w.p.out)
		w.seen[fmt.Sprint("kind ", out.Kind, " ", out.Trap)]++
	}
}

// TestWalks holds machines against the plain ones, in many calls in any order.
func TestWalks(t *testing.T) {
	r := rand.New(rand.NewPCG(15, 1))
	seen := map[string]int{}
	for k := range 300 {
		w := mover{t: t, r: r, c: made(t), p: newPlain(world()), about: fmt.Sprint("the walk ", k), seen: seen}
		for range 100 {
			w.move()
		}
	}
	for _, s := range []string{"Begin 0", "Begin 9", "Begin 6", "Begin 12", "Answer 0", "Answer 9", "kind 0 0", "kind 1 0", "kind 2 0", "kind 3 0", "kind 4 2", "kind 4 4", "kind 4 5",
		"kind 4 6", "kind 5 0"} {
		if seen[s] < 20 {
			t.Errorf("the test itself: of %s there are %d", s, seen[s])
		}
	}
}
