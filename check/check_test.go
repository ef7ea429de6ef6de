package check_test

import (
	"math"
	"slices"
	"strconv"
	"strings"
	"testing"

	"diapause/api"
	"diapause/check"
)

var pushing = strings.NewReplacer("1", " i32.const,7", "2", " i64.const,-7")

// consts push values of these kinds.
func consts(kinds string) string {
	return pushing.Replace(kinds) + " "
}

// drops take as many values as there are kinds.
func drops(kinds string) string {
	return " " + strings.Repeat("drop ", len(kinds))
}

// other is the other kind.
func other(kind byte) string {
	return string('1' + '2' - rune(kind))
}

// places lay instructions that leave nothing into each kind of block.
func places(s string) []string {
	return []string{
		s,
		"block " + s + " end",
		"loop " + s + " end",
		"i32.const,0 if " + s + " end",
		"i32.const,0 if " + s + " else end",
		"i32.const,0 if else " + s + " end",
		"block loop " + s + " end i32.const,0 if end end",
	}
}

func TestExamples(t *testing.T) {
	fits(t, ":1", "i32.const,1", "unreachable", "block,1 i32.const,1 br,0 end")
	unfit(t, ":1", "i64.const,1", "", "block i32.const,1 end")
}

// TestOfCodes holds which codes there are.
func TestOfCodes(t *testing.T) {
	m := world()
	for k, want := range map[int]bool{
		math.MinInt: false, -100: false, -1: false, 0: true, 4: true, 5: false, 6: false, 7: false, 1000: false, 1 << 32: false, math.MaxInt: false,
	} {
		if got := check.Func(m, k); got != want {
			t.Errorf("P8.1: Func %d of five codes: got %t", k, got)
		}
	}
	for _, k := range []int{-1, 0, 1} {
		if check.Func(api.Module{}, k) {
			t.Errorf("P8.1: Func %d of the zero Module", k)
		}
	}
	// Each code is looked at by itself, and with its own type.
	for bad := range m.Codes {
		m := world()
		m.Codes[bad].Body = body(t, "drop")
		for k := range m.Codes {
			if got := check.Func(m, k); got != (k != bad) {
				t.Errorf("P8.1: Func %d beside the bad code %d: got %t", k, bad, got)
			}
		}
		compare(t, m, "one bad code")
	}
	// Without imports, and with as many as there can be.
	for imports := range 12 {
		m := world()
		m.Imports = slices.Repeat(m.Imports[:1], imports)
		compare(t, m, "so many imports: "+strconv.Itoa(imports))
		if !check.Func(m, 4) || check.Func(m, 5) {
			t.Errorf("P8.1: Func beside %d imports", imports)
		}
	}
}

// TestOfTypes holds which types there are, for the function itself.
func TestOfTypes(t *testing.T) {
	for number, want := range map[int]bool{0: true, 7: true, 1: false, 3: false, 8: false, 9: false, 15: false, 16: false, 1000: false} {
		m := world()
		m.Funcs[0] = number
		hold(t, m, want, "an empty body of the type "+strconv.Itoa(number))
		m.Codes[0].Body = body(t, "unreachable")
		hold(t, m, number < 8, "unreachable, of the type "+strconv.Itoa(number))
		m.Imports = nil
		hold(t, m, number < 8, "unreachable, of the type "+strconv.Itoa(number)+", without imports")
	}
	m := world()
	m.Types = nil
	hold(t, m, false, "no types")
	// That another function or an import has a type that does not exist matters only where it is called.
	m = world()
	m.Funcs[1], m.Imports[0].Type = 8, 1000
	hold(t, m, true, "other functions without a type")
	// It is the type of the function, not that of an import with the same number.
	m = with(t, "1:2", "", "i64.const,3")
	hold(t, m, true, "a type of its own")
	m.Types[0], m.Types[3] = m.Types[3], m.Types[0]
	hold(t, m, false, "the type of an import")
}

// TestOfManyLocals holds how many there may be, parameters among them.
func TestOfManyLocals(t *testing.T) {
	for params := range 33 {
		for _, sum := range []int{0, 1, 31, 32, 33, 34, 64} {
			if sum < params || sum-params > 32 {
				continue
			}
			p, l := strings.Repeat("1", params), strings.Repeat("2", sum-params)
			try(t, p+":", l, "", sum <= 32)
			try(t, p+":", l, "unreachable", sum <= 32)
			if sum == 0 {
				continue
			}
			last := "local.get," + strconv.Itoa(sum-1)
			try(t, p+":", l, last+" drop", sum <= 32)
			try(t, p+":", l, "local.get,"+strconv.Itoa(sum)+" drop", false)
			if sum > params {
				try(t, p+":2", l, last, sum <= 32)
			}
			if params > 0 {
				try(t, p+":1", l, "local.get,"+strconv.Itoa(params-1), sum <= 32)
				try(t, p+":2", l, "local.get,"+strconv.Itoa(params-1), false)
			}
		}
	}
}

// effect is an instruction, or a block with all that is in it, and what becomes of the stack.
type effect struct {
	text string
	form
}

// effects are instructions with what they take and push in the world, whose function has the parameters 1 and 2, and a local of each kind.
func effects() []effect {
	all := []effect{
		{"nop", form{"", ""}},
		{"drop", form{"1", ""}},
		{"drop", form{"2", ""}},
		{"select", form{"111", "1"}},
		{"select", form{"221", "2"}},
		{"local.get,0", form{"", "1"}},
		{"local.get,1", form{"", "2"}},
		{"local.get,2", form{"", "2"}},
		{"local.get,3", form{"", "1"}},
		{"local.set,0", form{"1", ""}},
		{"local.set,1", form{"2", ""}},
		{"local.set,2", form{"2", ""}},
		{"local.set,3", form{"1", ""}},
		{"local.tee,0", form{"1", "1"}},
		{"local.tee,1", form{"2", "2"}},
		{"local.tee,2", form{"2", "2"}},
		{"local.tee,3", form{"1", "1"}},
		{"global.get,0", form{"", "1"}},
		{"global.get,1", form{"", "2"}},
		{"global.get,2", form{"", "2"}},
		{"global.get,3", form{"", "1"}},
		{"global.set,0", form{"1", ""}},
		{"global.set,2", form{"2", ""}},
		{"call,0", form{"1", "1"}},
		{"call,1", form{"12", ""}},
		{"call,2", form{"12", ""}},
		{"call,3", form{"21", "2"}},
		{"call,4", form{"112", "1"}},
		{"call,5", form{"", ""}},
		{"call,6", form{"", "2"}},

		{"call_indirect,0", form{"121", ""}},
		{"call_indirect,1", form{"1", "1"}},
		{"call_indirect,2", form{"1", "2"}},
		{"call_indirect,3", form{"11", "1"}},
		{"call_indirect,4", form{"211", "2"}},
		{"call_indirect,5", form{"121", ""}},
		{"call_indirect,6", form{"1121", "1"}},
		{"call_indirect,7", form{"1", ""}},

		{"block end", form{"", ""}},
		{"block,1 i32.const,1 end", form{"", "1"}},
		{"block,2 i64.const,1 end", form{"", "2"}},
		{"loop end", form{"", ""}},
		{"loop,1 i32.const,1 end", form{"", "1"}},
		{"loop,2 i64.const,1 end", form{"", "2"}},
		{"if end", form{"1", ""}},
		{"if else end", form{"1", ""}},
		{"if,1 i32.const,1 else i32.const,1 end", form{"1", "1"}},
		{"if,2 i64.const,1 else unreachable end", form{"1", "2"}},
		{"br_if,0", form{"1", ""}},
		{"block,1 i32.const,2 br,0 end", form{"", "1"}},
		{"block,2 i64.const,2 br,0 drop drop end", form{"", "2"}},
	}
	for op, f := range plain {
		if f != (form{}) {
			all = append(all, effect{names[op], f})
		}
	}
	return all
}

// within holds a body in every kind of block, of a function with the parameters 1 and 2 and a local of each kind.
func within(t *testing.T, s string, want bool) {
	t.Helper()
	for _, p := range places(s) {
		try(t, "12:", "21", p, want)
	}
}

// TestEveryInstruction gives each instruction just what it takes, too little, values of the other kind, and too much.
func TestEveryInstruction(t *testing.T) {
	for _, f := range effects() {
		s := f.text
		within(t, consts(f.takes)+s+drops(f.pushes), true)
		// What lies below it stays as it is.
		within(t, consts("21"+f.takes)+s+drops(f.pushes)+" i32.eqz drop i64.eqz drop", true)
		for few := range f.takes {
			within(t, consts(f.takes[len(f.takes)-few:])+s+drops(f.pushes), false)
			within(t, consts(f.takes[:few])+s+drops(f.pushes), false)
		}
		for k := range f.takes {
			if strings.HasPrefix(s, "drop") {
				continue
			}
			within(t, consts(f.takes[:k]+other(f.takes[k])+f.takes[k+1:])+s+drops(f.pushes), false)
		}
		for _, kind := range []string{"1", "2"} {
			within(t, consts(kind+f.takes)+s+drops(f.pushes), false)
			within(t, consts(f.takes)+s+drops(f.pushes)+consts(kind), false)
		}
		within(t, consts(f.takes)+s+drops(f.pushes)+" drop", false)
		if f.pushes == "" {
			continue
		}
		within(t, consts(f.takes)+s, false)
		for local, kind := range []string{"1", "2"} {
			within(t, consts(f.takes)+s+" local.set,"+strconv.Itoa(local), kind == f.pushes)
			within(t, "block,"+kind+consts(f.takes)+s+" end drop", kind == f.pushes)
			within(t, "loop,"+kind+consts(f.takes)+s+" end drop", kind == f.pushes)
			try(t, "12:"+kind, "21", consts(f.takes)+s, kind == f.pushes)
			try(t, "12:"+kind, "21", consts(f.takes)+s+" return", kind == f.pushes)
		}
	}
}

// TestBelowTheBeginning holds that no block takes what lay on the stack before it.
func TestBelowTheBeginning(t *testing.T) {
	for _, f := range effects() {
		s := f.text
		for k := range f.takes {
			before, inside := consts(f.takes[:k+1]), consts(f.takes[k+1:])+s+drops(f.pushes)
			try(t, "12:", "21", before+inside, true)
			for _, b := range []string{"block ", "loop ", "i32.const,1 if ", "i32.const,1 if else "} {
				try(t, "12:", "21", before+b+inside+" end", false)
				try(t, "12:", "21", before+b+inside+" end"+drops(f.takes[:k+1]), false)
				try(t, "12:", "21", before+b+" end "+inside, true)
				try(t, "12:", "21", before+b+"block"+inside+" end end", false)
				try(t, "12:", "21", before+b+inside+consts(f.takes[:k+1])+" end "+drops(f.takes[:k+1]), false)
			}
		}
	}
}

// TestMemory holds what needs a memory, and what does not.
func TestMemory(t *testing.T) {
	for op, f := range plain {
		_, needs := widths[names[op]]
		if f == (form{}) {
			continue
		}
		m := with(t, ":", "", consts(f.takes)+names[op]+drops(f.pushes))
		hold(t, m, true, names[op]+" with a memory")
		m.Mem = api.Limits{Has: true, Max: -1}
		hold(t, m, true, names[op]+" with a memory of no pages")
		m.Mem, m.Datas = api.Limits{}, nil
		hold(t, m, !needs, names[op]+" without a memory")
		m.Codes[0].Body = slices.Insert(m.Codes[0].Body, 0, api.Instr{Op: 0x00})
		hold(t, m, !needs, names[op]+" without a memory, where nothing is reached")
		m.Table, m.Elems = api.Limits{}, nil
		m.Mem = api.Limits{Has: true, Min: 1, Max: -1}
		hold(t, m, true, names[op]+" without a table")
	}
}

// TestAlignment holds the greatest alignments, and all offsets.
func TestAlignment(t *testing.T) {
	for name, most := range map[string]int{
		"i32.load": 2, "i64.load": 3, "i32.load8_s": 0, "i32.load8_u": 0, "i32.store": 2, "i64.store": 3, "i32.store8": 0,
	} {
		f := plain[opcodes[name]]
		for a := range 4 {
			for _, offset := range []string{"0", "1", "3", "4", "255", "65536", "4294967295"} {
				s := name + "," + strconv.Itoa(a) + "," + offset
				within(t, consts(f.takes)+s+drops(f.pushes), a <= most)
				within(t, "unreachable "+s+drops(f.pushes), a <= most)
			}
		}
	}
}

// TestDropAndSelect holds what has no kind of its own.
func TestDropAndSelect(t *testing.T) {
	fits(t, ":", "i32.const,1 drop", "i64.const,1 drop", "i32.const,1 i64.const,1 drop drop", "block,2 i64.const,1 end drop")
	unfit(t, ":", "drop", "i32.const,1 drop drop", "i32.const,1 block drop end", "block drop end")
	for _, a := range []string{"1", "2"} {
		for _, b := range []string{"1", "2"} {
			for _, c := range []string{"1", "2"} {
				for _, result := range []string{"1", "2"} {
					s := consts(a+b+c) + "select"
					try(t, ":"+result, "", s, a == b && c == "1" && result == a)
					try(t, ":", "", s+" drop", a == b && c == "1")
					try(t, ":", "", s, false)
				}
			}
		}
	}
	unfit(t, ":1", "select", "i32.const,1 select", "i32.const,1 i32.const,1 select", "i32.const,1 i32.const,1 block,1 i32.const,1 select end")
	fits(t, ":1", "i32.const,1 i32.const,1 block,1 i32.const,1 end select")
}

// TestLocals holds which there are.
func TestLocals(t *testing.T) {
	for _, name := range []string{"local.get", "local.set", "local.tee"} {
		for params, locals := range map[string]string{"": "", "1": "", "2": "1", "12": "2", strings.Repeat("12", 16): "", " ": strings.Repeat("21", 16), "221": "1121"} {
			params = strings.TrimSpace(params)
			all := params + locals
			for _, n := range []int{0, 1, 2, 3, 30, 31, 32, 33, 999, 1000, len(all) - 1, len(all), len(all) + 1} {
				if n < 0 {
					continue
				}
				s := name + "," + strconv.Itoa(n)
				try(t, params+":", locals, "unreachable "+s+" unreachable", n < len(all))
				for _, kind := range []string{"1", "2"} {
					good := n < len(all) && all[n:n+1] == kind
					try(t, params+":"+kind, locals, map[string]string{
						"local.get": s,
						"local.set": consts("12"+kind) + s + " drop drop" + consts(kind),
						"local.tee": consts(kind) + s,
					}[name], good)
				}
			}
		}
	}
	// The locals of another function are none of this one's.
	m := with(t, ":1", "", "local.get,0")
	m.Codes[1].Locals = []int{1, 1}
	hold(t, m, false, "a local of another function")
}

// TestGlobals holds which there are, and which can be set.
func TestGlobals(t *testing.T) {
	for count := range 17 {
		m := world()
		m.Globals = nil
		for k := range count {
			m.Globals = append(m.Globals, api.Global{Mut: k%3 == 0, Init: api.Val{Kind: 1 + k%2}})
		}
		for _, n := range []int{0, 1, 2, 3, count - 1, count, count + 1, 15, 16, 17, 1000} {
			if n < 0 {
				continue
			}
			for kind := 1; kind <= 2; kind++ {
				about := strconv.Itoa(n) + " of " + strconv.Itoa(count) + " globals, of the kind " + strconv.Itoa(kind)
				good := n < count && 1+n%2 == kind
				m.Types[0].Results = []int{kind}
				m.Codes[0].Body = []api.Instr{{Op: 0x23, A: int64(n)}}
				hold(t, m, good, about)
				m.Codes[0].Body = []api.Instr{{Op: 0x40 + kind}, {Op: 0x24, A: int64(n)}, {Op: 0x00}}
				hold(t, m, good && n%3 == 0, about+", set")
				m.Codes[0].Body = []api.Instr{{Op: 0x00}, {Op: 0x24, A: int64(n)}, {Op: 0x40 + kind}}
				hold(t, m, n < count && n%3 == 0, about+", set where nothing is reached")
			}
		}
	}
}

// TestCalls holds which functions there are, and in which order they take their parameters.
func TestCalls(t *testing.T) {
	fits(t, ":2", "i64.const,1 i32.const,1 call,3", "call,6", "unreachable call,3", "i64.const,1 unreachable call,3", "unreachable i32.const,1 call,3", "i32.const,1 call,0 i64.extend_s")
	unfit(t, ":2", "i32.const,1 i64.const,1 call,3", "i64.const,1 call,3", "i32.const,1 call,3", "call,3", "i64.const,1 i32.const,1 call,4",
		"unreachable i64.const,1 call,3", "i32.const,1 call,0", "i64.const,1 i32.const,1 call,3 drop", "i64.const,1 block,2 i32.const,1 call,3 end")
	fits(t, ":1", "i32.const,1 i32.const,1 i64.const,1 call,4")
	unfit(t, ":1", "i32.const,1 i64.const,1 i32.const,1 call,4", "i64.const,1 i32.const,1 i32.const,1 call,4", "i32.const,1 i64.const,1 call,4")
	for _, n := range []int{7, 8, 16, 17, 1000} {
		unfit(t, ":", "call,"+strconv.Itoa(n), "unreachable call,"+strconv.Itoa(n))
	}
	// It may call itself.
	fits(t, "21:2", "local.get,0 local.get,1 call,2")
	unfit(t, "21:2", "local.get,1 local.get,0 call,2")
	for _, number := range []int{0, 7, 8, 9, 1000} {
		m := with(t, ":", "", "unreachable call,0 unreachable call,3 unreachable")
		m.Imports[0].Type = number
		hold(t, m, number < 8, "an import of the type "+strconv.Itoa(number))
		m = with(t, ":", "", "unreachable call,0 unreachable call,3 unreachable")
		m.Funcs[1] = number
		hold(t, m, number < 8, "a function of the type "+strconv.Itoa(number))
	}
	m := with(t, ":", "", "call,4")
	m.Imports = nil
	hold(t, m, false, "the last function but for imports")
	m.Codes[0].Body = body(t, "call,3")
	hold(t, m, true, "a function without imports")
}

// TestIndirectCalls holds the table and the types.
func TestIndirectCalls(t *testing.T) {
	fits(t, ":2", "i64.const,1 i32.const,1 i32.const,0 call_indirect,4", "i32.const,0 call_indirect,2", "unreachable call_indirect,4",
		"unreachable i64.const,1 i32.const,1 i32.const,0 call_indirect,4")
	unfit(t, ":2", "i32.const,1 i64.const,1 i32.const,0 call_indirect,4", "i64.const,1 i32.const,1 i64.const,0 call_indirect,4", "i32.const,0 i64.const,1 i32.const,1 call_indirect,4",
		"i64.const,1 i32.const,0 call_indirect,4", "i32.const,0 call_indirect,4", "call_indirect,2", "i64.const,0 call_indirect,2", "unreachable i64.const,0 call_indirect,2",
		"unreachable i64.const,1 i32.const,0 call_indirect,4")
	for _, n := range []int{8, 9, 15, 16, 1000} {
		unfit(t, ":", "i32.const,0 call_indirect,"+strconv.Itoa(n), "unreachable call_indirect,"+strconv.Itoa(n))
	}
	for _, s := range []string{"i32.const,0 call_indirect,7", "unreachable call_indirect,7", "i32.const,1 i32.const,0 call_indirect,3 drop"} {
		m := with(t, ":", "", s)
		hold(t, m, true, s+" with a table")
		m.Table = api.Limits{Has: true, Max: 0}
		hold(t, m, true, s+" with a table of no elements")
		m.Mem, m.Datas = api.Limits{}, nil
		hold(t, m, true, s+" without a memory")
		m.Table, m.Elems = api.Limits{}, nil
		hold(t, m, false, s+" without a table")
	}
	m := with(t, "12:", "", "i32.const,1 i64.const,1 call,1")
	m.Table, m.Elems = api.Limits{}, nil
	hold(t, m, true, "a call without a table")
}
