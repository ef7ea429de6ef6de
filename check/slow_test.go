package check_test

import (
	"slices"
	"strconv"
	"strings"
	"testing"

	"diapause/api"
	"diapause/check"
	"diapause/wasm"
)

// rows are the names of the instructions from an opcode on, with the kinds that each of them takes and pushes, as digits.
// Where these hang on more than the opcode, there are none.
var rows = []struct {
	first         int
	names         string
	takes, pushes string
}{
	{0x00, "unreachable nop block loop if else", "", ""},
	{0x0b, "end br br_if br_table return call call_indirect", "", ""},
	{0x1a, "drop select", "", ""},
	{0x20, "local.get local.set local.tee global.get global.set", "", ""},
	{0x28, "i32.load", "1", "1"},
	{0x29, "i64.load", "1", "2"},
	{0x2c, "i32.load8_s i32.load8_u", "1", "1"},
	{0x36, "i32.store", "11", ""},
	{0x37, "i64.store", "12", ""},
	{0x3a, "i32.store8", "11", ""},
	{0x3f, "memory.size", "", "1"},
	{0x40, "memory.grow", "1", "1"},
	{0x41, "i32.const", "", "1"},
	{0x42, "i64.const", "", "2"},
	{0x45, "i32.eqz", "1", "1"},
	{0x46, "i32.eq i32.ne i32.lt_s i32.lt_u i32.gt_s i32.gt_u i32.le_s i32.le_u i32.ge_s i32.ge_u", "11", "1"},
	{0x50, "i64.eqz", "2", "1"},
	{0x51, "i64.eq i64.ne i64.lt_s i64.lt_u i64.gt_s i64.gt_u i64.le_s i64.le_u i64.ge_s i64.ge_u", "22", "1"},
	{0x67, "i32.clz i32.ctz i32.popcnt", "1", "1"},
	{0x6a, "i32.add i32.sub i32.mul i32.div_s i32.div_u i32.rem_s i32.rem_u i32.and i32.or i32.xor i32.shl i32.shr_s i32.shr_u i32.rotl i32.rotr", "11", "1"},
	{0x79, "i64.clz i64.ctz i64.popcnt", "2", "2"},
	{0x7c, "i64.add i64.sub i64.mul i64.div_s i64.div_u i64.rem_s i64.rem_u i64.and i64.or i64.xor i64.shl i64.shr_s i64.shr_u i64.rotl i64.rotr", "22", "2"},
	{0xa7, "i32.wrap", "2", "1"},
	{0xac, "i64.extend_s i64.extend_u", "1", "2"},
}

// form is what an instruction takes off the stack, and what it pushes, as digits.
type form struct{ takes, pushes string }

// opcodes are those of all names, and names those of all opcodes; plain are the forms of those that hang on nothing else.
var opcodes, names, plain = func() (map[string]int, map[int]string, map[int]form) {
	numbers, texts, forms := map[string]int{}, map[int]string{}, map[int]form{}
	for _, row := range rows {
		for k, name := range strings.Fields(row.names) {
			numbers[name] = row.first + k
			texts[row.first+k] = name
			forms[row.first+k] = form{row.takes, row.pushes}
		}
	}
	return numbers, texts, forms
}()

// body makes instructions of words: a name, and behind commas A and B, or L and A.
func body(t testing.TB, s string) []api.Instr {
	t.Helper()
	var l []api.Instr
	for _, word := range strings.Fields(s) {
		parts := strings.Split(word, ",")
		op, ok := opcodes[parts[0]]
		if !ok {
			t.Fatalf("no instruction has the name %s", parts[0])
		}
		x := api.Instr{Op: op}
		var numbers []int64
		for _, p := range parts[1:] {
			n, err := strconv.ParseInt(p, 10, 64)
			if err != nil {
				t.Fatal(err)
			}
			numbers = append(numbers, n)
		}
		if parts[0] == "br_table" {
			for _, n := range numbers[:len(numbers)-1] {
				x.L = append(x.L, int(n))
			}
			numbers = numbers[len(numbers)-1:]
		}
		if len(numbers) > 0 {
			x.A = numbers[0]
		}
		if len(numbers) > 1 {
			x.B = numbers[1]
		}
		l = append(l, x)
	}
	return l
}

// kinds makes a list of digits.
func kinds(digits string) []int {
	var l []int
	for _, d := range digits {
		l = append(l, int(d-'0'))
	}
	return l
}

// digits makes digits of a list.
func digits(l []int) string {
	var b strings.Builder
	for _, kind := range l {
		b.WriteString(strconv.Itoa(kind))
	}
	return b.String()
}

// typed makes a type of the digits of its parameters and of its result, with a colon between.
func typed(s string) api.Type {
	params, results, _ := strings.Cut(s, ":")
	return api.Type{Params: kinds(params), Results: kinds(results)}
}

// slow is Func, the slow way: it follows all the stacks that there can be, and where nothing is reached it takes on whatever is
// asked for, once as each kind. A stack holds only what the innermost block has pushed.
type slow struct {
	m      api.Module
	locals string
	l      []api.Instr
	at     int
	labels []string // what a branch to each enclosing block takes, the innermost last
	bad    bool
}

// stacks are those that there can be.
type stacks struct {
	all  []string
	open bool // below each of them there is whatever is asked for
}

// apply takes and pushes by each of these forms in turn, and keeps all stacks that come of it.
func (s *slow) apply(st stacks, forms ...form) stacks {
	next := stacks{open: st.open}
	for _, f := range forms {
		for _, one := range st.all {
			rest, ok := strings.CutSuffix(one, f.takes)
			if !ok && st.open && strings.HasSuffix(f.takes, one) {
				rest, ok = "", true
			}
			if ok && !slices.Contains(next.all, rest+f.pushes) {
				next.all = append(next.all, rest+f.pushes)
			}
		}
	}
	s.bad = s.bad || len(next.all) == 0
	return next
}

// next tells whether the instruction that comes next has this name, and goes on behind it.
func (s *slow) next(name string) bool {
	if s.at == len(s.l) || s.l[s.at].Op != opcodes[name] {
		return false
	}
	s.at++
	return true
}

// sequence goes through what stands between two bounds, which leaves just this result, in a block to which a branch takes the label.
func (s *slow) sequence(result, label string) {
	s.labels = append(s.labels, label)
	st := stacks{all: []string{""}}
	for s.at < len(s.l) && s.l[s.at].Op != opcodes["else"] && s.l[s.at].Op != opcodes["end"] && !s.bad {
		x := s.l[s.at]
		s.at++
		if x.Op >= opcodes["block"] && x.Op <= opcodes["if"] {
			st = s.block(st, x)
			continue
		}
		forms, leaves := s.forms(x)
		st = s.apply(st, forms...)
		if leaves {
			st = stacks{all: []string{""}, open: true}
		}
	}
	if last := s.apply(st, form{result, ""}); !slices.Contains(last.all, "") {
		s.bad = true
	}
	s.labels = s.labels[:len(s.labels)-1]
}

// block goes through a block, a loop or an if, whose first instruction is x, with its end.
func (s *slow) block(st stacks, x api.Instr) stacks {
	result := strings.Trim(strconv.Itoa(int(x.A)), "0")
	switch x.Op {
	case opcodes["block"]:
		s.sequence(result, result)
	case opcodes["loop"]:
		s.sequence(result, "")
	case opcodes["if"]:
		st = s.apply(st, form{"1", ""})
		s.sequence(result, result)
		if s.next("else") {
			s.sequence(result, result)
		} else if result != "" {
			s.bad = true
		}
	}
	if !s.next("end") {
		s.bad = true
	}
	return s.apply(st, form{"", result})
}

// function is the form of a call of a function of this type.
func (s *slow) function(number int) []form {
	if number >= len(s.m.Types) {
		return nil
	}
	return []form{{digits(s.m.Types[number].Params), digits(s.m.Types[number].Results)}}
}

// forms are those of an instruction, none if it can't stand there, and whether what stands behind it is not reached.
func (s *slow) forms(x api.Instr) (l []form, leaves bool) {
	a := int(x.A)
	switch name := names[x.Op]; name {
	case "nop":
		return []form{{}}, false
	case "unreachable":
		return []form{{}}, true
	case "drop":
		return []form{{"1", ""}, {"2", ""}}, false
	case "select":
		return []form{{"111", "1"}, {"221", "2"}}, false
	case "br", "br_if", "br_table", "return":
		return s.branch(x), name != "br_if"
	case "call":
		var types []int
		for _, i := range s.m.Imports {
			types = append(types, i.Type)
		}
		types = append(types, s.m.Funcs...)
		if a < len(types) {
			return s.function(types[a]), false
		}
	case "call_indirect":
		for _, f := range s.function(a) {
			if s.m.Table.Has {
				return []form{{f.takes + "1", f.pushes}}, false
			}
		}
	case "local.get", "local.set", "local.tee":
		if a < len(s.locals) {
			kind := s.locals[a : a+1]
			return []form{map[string]form{"local.get": {"", kind}, "local.set": {kind, ""}, "local.tee": {kind, kind}}[name]}, false
		}
	case "global.get", "global.set":
		if a >= len(s.m.Globals) {
			break
		}
		kind := strconv.Itoa(s.m.Globals[a].Init.Kind)
		if name == "global.get" {
			return []form{{"", kind}}, false
		}
		if s.m.Globals[a].Mut {
			return []form{{kind, ""}}, false
		}
	default:
		most, needsMem := widths[name]
		if !needsMem || s.m.Mem.Has && 1<<a <= most {
			return []form{plain[x.Op]}, false
		}
	}
	return nil, false
}

// widths are the bytes that each of those that need a memory reaches; memory.size and memory.grow have no alignment but 0.
var widths = map[string]int{
	"i32.load": 4, "i64.load": 8, "i32.load8_s": 1, "i32.load8_u": 1,
	"i32.store": 4, "i64.store": 8, "i32.store8": 1, "memory.size": 1, "memory.grow": 1,
}

// branch is the form of a branch.
func (s *slow) branch(x api.Instr) []form {
	targets := append(slices.Clone(x.L), int(x.A))
	if names[x.Op] == "return" {
		targets = []int{len(s.labels) - 1}
	}
	var takes []string
	for _, n := range targets {
		if n >= len(s.labels) {
			return nil
		}
		takes = append(takes, s.labels[len(s.labels)-1-n])
	}
	if slices.Max(takes) != slices.Min(takes) {
		return nil
	}
	switch names[x.Op] {
	case "br_if":
		return []form{{takes[0] + "1", takes[0]}}
	case "br_table":
		return []form{{takes[0] + "1", ""}}
	}
	return []form{{takes[0], ""}}
}

// valid is the slow way of Func for a module that may be.
func valid(m api.Module, k int) bool {
	if k < 0 || k >= len(m.Codes) || m.Funcs[k] >= len(m.Types) {
		return false
	}
	f := m.Types[m.Funcs[k]]
	s := slow{m: m, locals: digits(f.Params) + digits(m.Codes[k].Locals), l: m.Codes[k].Body}
	if len(s.locals) > 32 {
		return false
	}
	s.sequence(digits(f.Results), digits(f.Results))
	return !s.bad && s.at == len(s.l)
}

// compare holds Func of every code against the slow way.
func compare(t testing.TB, m api.Module, about string) {
	t.Helper()
	if !wasm.May(m) {
		t.Fatalf("%s: what Func is asked about is no module", about)
	}
	for k := -1; k <= len(m.Codes); k++ {
		if got, want := check.Func(m, k), valid(m, k); got != want {
			t.Errorf("P8.1: Func %d, %s: got %t, want %t", k, about, got, want)
		}
	}
}

// world is a module with something of everything, and the code that is looked at as the first one, of the type 0.
func world() api.Module {
	return api.Module{
		Types: []api.Type{
			typed(":"), typed(":1"), typed(":2"), typed("1:1"), typed("21:2"), typed("12:"), typed("112:1"), typed(":"),
		},
		Imports: []api.Import{{Mod: "w", Name: "ask", Type: 3}, {Mod: "w", Name: "tell", Type: 5}},
		Funcs:   []int{0, 4, 6, 7, 2},
		Table:   api.Limits{Has: true, Min: 4, Max: -1},
		Mem:     api.Limits{Has: true, Min: 1, Max: 3},
		Globals: []api.Global{
			{Mut: true, Init: api.Val{Kind: api.I32, N: 7}}, {Init: api.Val{Kind: api.I64, N: -9}},
			{Mut: true, Init: api.Val{Kind: api.I64, N: 1}}, {Init: api.Val{Kind: api.I32}},
		},
		Exports: []api.Export{{Name: "f", Func: 2}},
		Elems:   []api.Elem{{Off: 1, Funcs: []int{0, 2}}},
		Codes: []api.Code{
			{},
			{Body: []api.Instr{{Op: 0x20}}},
			{Body: []api.Instr{{Op: 0x20, A: 1}}},
			{},
			{Body: []api.Instr{{Op: 0x42, A: 5}}},
		},
		Datas: []api.Data{{Off: 3, Bytes: []byte("abc")}},
	}
}

// with is the world whose first code has this type, these locals as digits, and this body.
func with(t testing.TB, signature, locals, text string) api.Module {
	t.Helper()
	m := world()
	m.Types[0] = typed(signature)
	m.Codes[0] = api.Code{Locals: kinds(locals), Body: body(t, text)}
	return m
}

// hold holds Func of the first code, and of all codes the slow way.
func hold(t testing.TB, m api.Module, want bool, about string) {
	t.Helper()
	if got := check.Func(m, 0); got != want {
		t.Errorf("P8.1: Func, %s: got %t", about, got)
	}
	compare(t, m, about)
}

// try holds Func of a code in the world.
func try(t testing.TB, signature, locals, text string, want bool) {
	t.Helper()
	about := signature + " with " + locals + ", " + text
	if len(about) > 300 {
		about = about[:300] + ".."
	}
	hold(t, with(t, signature, locals, text), want, about)
}

// fits and unfit hold bodies of a function of this type, without locals of its own.
func fits(t testing.TB, signature string, all ...string) {
	t.Helper()
	for _, s := range all {
		try(t, signature, "", s, true)
	}
}

func unfit(t testing.TB, signature string, all ...string) {
	t.Helper()
	for _, s := range all {
		try(t, signature, "", s, false)
	}
}

// funcOf is Func of the first code.
func funcOf(m api.Module) bool {
	return check.Func(m, 0)
}
