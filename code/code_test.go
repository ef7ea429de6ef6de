package code_test

import (
	"bytes"
	"encoding/hex"
	"math"
	"slices"
	"strings"
	"testing"

	"diapause/api"
	"diapause/code"
	"diapause/instr"
)

// parser is Match and Targets, the slow way: it goes down into each block and comes back behind its end.
type parser struct {
	l      []api.Instr
	at     int
	blocks []code.Block
	around [][]int // of each instruction
}

// next tells whether the instruction that comes next has this opcode.
func (p *parser) next(op int) bool {
	return p.at < len(p.l) && p.l[p.at].Op == op
}

// pass goes on behind the next instruction, which these blocks enclose.
func (p *parser) pass(around []int) int {
	p.around = append(p.around, slices.Clone(around))
	p.at++
	return p.at - 1
}

// items goes through what stands between two bounds, up to an else, an end, or the last instruction.
func (p *parser) items(around []int) bool {
	for p.at < len(p.l) {
		switch p.l[p.at].Op {
		case 0x05, 0x0b:
			return true
		case 0x02, 0x03, 0x04:
			if !p.block(around) {
				return false
			}
		default:
			p.pass(around)
		}
	}
	return true
}

// block goes through a block, a loop or an if, with its end.
func (p *parser) block(around []int) bool {
	isIf := p.next(0x04)
	number := len(p.blocks)
	p.blocks = append(p.blocks, code.Block{At: p.pass(around), Else: -1})
	inner := append([]int{p.blocks[number].At}, around...)
	if len(inner) > 40 || !p.items(inner) {
		return false
	}
	if isIf && p.next(0x05) {
		p.blocks[number].Else = p.pass(around)
		if !p.items(inner) {
			return false
		}
	}
	if !p.next(0x0b) {
		return false
	}
	p.blocks[number].End = p.pass(around)
	return true
}

// match is the slow way of Match, and of Targets at each instruction.
func match(l []api.Instr) (blocks []code.Block, around [][]int, ok bool) {
	p := parser{l: l}
	if len(l) > 300 || !p.items(nil) || p.at < len(l) {
		return nil, nil, false
	}
	return p.blocks, p.around, true
}

// get is Get, the slow way: of all instructions that can be read, the first end that has as many ends as beginnings before it.
func get(b []byte) ([]api.Instr, int, api.Errno) {
	var l []api.Instr
	at := 0
	for {
		x, k, err := instr.Get(b[at:])
		if err != api.OK {
			return nil, 0, err
		}
		at += k
		level := func(y api.Instr) bool { return y.Op >= 0x02 && y.Op <= 0x04 }
		if x.Op == 0x0b && count(l, level) == count(l, func(y api.Instr) bool { return y.Op == 0x0b }) {
			break
		}
		l = append(l, x)
		if len(l) == 301 {
			return nil, 0, api.ErrLimit
		}
	}
	if _, _, ok := match(l); !ok {
		return nil, 0, api.ErrForm
	}
	return l, at, api.OK
}

func count(l []api.Instr, is func(api.Instr) bool) int {
	n := 0
	for _, x := range l {
		if is(x) {
			n++
		}
	}
	return n
}

// plain makes instructions of their opcodes in hexadecimal digits.
func plain(t *testing.T, s string) []api.Instr {
	t.Helper()
	var l []api.Instr
	for _, op := range unhex(t, s) {
		l = append(l, api.Instr{Op: int(op)})
	}
	return l
}

func unhex(t *testing.T, s string) []byte {
	t.Helper()
	b, err := hex.DecodeString(strings.ReplaceAll(s, " ", ""))
	if err != nil {
		t.Fatal(err)
	}
	return b
}

// nested are so many blocks (or loops, or ifs) in one another, as digits.
func nested(op string, depth int) string {
	return strings.Repeat(op, depth) + strings.Repeat("0b", depth)
}

// coded is nested, encoded, without the end that belongs to no block.
func coded(depth int) string {
	return strings.Repeat("0240", depth) + strings.Repeat("0b", depth)
}

// nops are so many, as digits.
func nops(k int) string {
	return strings.Repeat("01", k)
}

// sameBodies holds all fields of all instructions against each other.
func sameBodies(a, b []api.Instr) bool {
	return slices.EqualFunc(a, b, func(x, y api.Instr) bool {
		return x.Op == y.Op && x.A == y.A && x.B == y.B && slices.Equal(x.L, y.L)
	})
}

// compareBody holds Match, Targets at every index, Put and Get of l against the slow way.
func compareBody(t *testing.T, l []api.Instr) {
	t.Helper()
	want, around, ok := match(l)
	got, gotOk := code.Match(l)
	if gotOk != ok || !slices.Equal(got, want) || !ok && got != nil {
		t.Errorf("P6.1: Match %v: got %v, %t; want %v, %t", l, got, gotOk, want, ok)
	}
	if !ok {
		return
	}
	for at := range l {
		if got := code.Targets(l, at); !slices.Equal(got, around[at]) {
			t.Errorf("P6.1: Targets %v at %d: got %v, want %v", l, at, got, around[at])
		}
	}
	for _, at := range []int{-1, len(l), len(l) + 1, math.MinInt, math.MaxInt} {
		if got := code.Targets(l, at); got != nil {
			t.Errorf("P6.1: Targets %v at %d, where nothing is: got %v", l, at, got)
		}
	}
}

// compareBytes holds Get against the slow way.
func compareBytes(t *testing.T, b []byte) {
	t.Helper()
	want, wantK, wantErr := get(b)
	l, k, err := code.Get(b)
	if !sameBodies(l, want) || k != wantK || err != wantErr || err != api.OK && l != nil {
		t.Errorf("P6.2: Get %.60x (%d bytes): got %v, %d, %d; want %v, %d, %d", b, len(b), l, k, err, want, wantK, wantErr)
	}
}

// each hands every list of up to most of these to the function.
func each[E any](all []E, most int, visit func([]E)) {
	var grow func([]E)
	grow = func(l []E) {
		visit(l)
		if len(l) == most {
			return
		}
		for _, x := range all {
			grow(append(l[:len(l):len(l)], x))
		}
	}
	grow(nil)
}

func TestMatch(t *testing.T) {
	for _, c := range []struct {
		body string
		want []code.Block
	}{
		{"", nil},
		{"01 1a 0c", nil},
		{"02 0b", []code.Block{{At: 0, Else: -1, End: 1}}},
		{"03 01 0b", []code.Block{{At: 0, Else: -1, End: 2}}},
		{"04 0b", []code.Block{{At: 0, Else: -1, End: 1}}},
		{"04 05 0b", []code.Block{{At: 0, Else: 1, End: 2}}},
		{"01 04 01 01 05 0b 01", []code.Block{{At: 1, Else: 4, End: 5}}},
		{"04 01 05 1a 0b 03 0b", []code.Block{{At: 0, Else: 2, End: 4}, {At: 5, Else: -1, End: 6}}},
		{"02 04 05 02 0b 0b 0c 0b 01", []code.Block{{At: 0, Else: -1, End: 7}, {At: 1, Else: 2, End: 5}, {At: 3, Else: -1, End: 4}}},
		{"04 04 05 0b 05 04 0b 0b", []code.Block{{At: 0, Else: 4, End: 7}, {At: 1, Else: 2, End: 3}, {At: 5, Else: -1, End: 6}}},
		{"04 04 0b 05 0b", []code.Block{{At: 0, Else: 3, End: 4}, {At: 1, Else: -1, End: 2}}},
		{"04 02 0b 05 03 0b 0b", []code.Block{{At: 0, Else: 3, End: 6}, {At: 1, Else: -1, End: 2}, {At: 4, Else: -1, End: 5}}},
		{"02 03 04 0b 0b 0b 02 0b", []code.Block{{At: 0, Else: -1, End: 5}, {At: 1, Else: -1, End: 4}, {At: 2, Else: -1, End: 3}, {At: 6, Else: -1, End: 7}}},
	} {
		l := plain(t, c.body)
		if got, ok := code.Match(l); !ok || !slices.Equal(got, c.want) {
			t.Errorf("P6.1: Match %s: got %v, %t; want %v", c.body, got, ok, c.want)
		}
		compareBody(t, l)
	}
	if got, ok := code.Match([]api.Instr{}); !ok || len(got) > 0 {
		t.Errorf("P0.4: Match of an empty list: got %v, %t", got, ok)
	}
}

func TestMatchOfNoBody(t *testing.T) {
	for _, s := range []string{
		"0b", "01 0b", "02 0b 0b", "04 05 0b 0b", "0b 02", "02 0b 0b 02",
		"05", "01 05", "05 0b", "02 0b 05", "04 0b 05", "04 0b 05 0b", "04 05 0b 05", "05 04 0b",
		"02 05 0b", "03 05 0b", "02 01 05 01 0b", "04 02 05 0b 0b", "04 03 05 0b 0b", "04 05 02 05 0b 0b",
		"04 05 05 0b", "04 01 05 01 05 0b", "04 05 04 05 0b 05 0b", "04 04 05 05 0b 0b", "04 05 02 0b 05 0b",
		"02", "03", "04", "04 05", "02 02 0b", "02 04 05 0b", "02 0b 03", "01 01 02 01",
	} {
		l := plain(t, s)
		if got, ok := code.Match(l); ok || got != nil {
			t.Errorf("P6.1: Match %s: got %v, %t", s, got, ok)
		}
		compareBody(t, l)
	}
}

// TestEveryShortBody goes through all lists of some length of what makes a difference.
func TestEveryShortBody(t *testing.T) {
	compare := func(l []api.Instr) { compareBody(t, l) }
	each([]api.Instr{{Op: 0x01}, {Op: 0x02}, {Op: 0x03}, {Op: 0x04}, {Op: 0x05}, {Op: 0x0b}}, 6, compare)
	each([]api.Instr{{Op: 0x02}, {Op: 0x04}, {Op: 0x05}, {Op: 0x0b}}, 8, compare)
	each([]api.Instr{{Op: 0x04}, {Op: 0x05}, {Op: 0x0b}}, 10, compare)
}

// TestLongBodies holds the greatest number of instructions: 300, whatever they are.
func TestLongBodies(t *testing.T) {
	for s, want := range map[string]bool{
		nops(299):                                    true,
		nops(300):                                    true,
		nops(301):                                    false,
		nops(302):                                    false,
		nops(10000):                                  false,
		strings.Repeat("020b", 150):                  true,
		strings.Repeat("020b", 150) + "01":           false,
		strings.Repeat("020b", 151):                  false,
		strings.Repeat("04050b", 100):                true,
		strings.Repeat("04050b", 100) + "01":         false,
		nested("02", 40) + nops(220):                 true,
		nested("02", 40) + nops(221):                 false,
		"02" + nops(298) + "0b":                      true,
		"02" + nops(299) + "0b":                      false,
		nops(298) + "020b":                           true,
		nops(299) + "020b":                           false,
		nops(299) + "02":                             false,
		nops(299) + "0b":                             false,
		nops(300) + "0b":                             false,
		nops(297) + "04050b":                         true,
		"04" + nops(150) + "05" + nops(147) + "0b":   true,
		"04" + nops(150) + "05" + nops(148) + "0b":   false,
		"04" + nops(150) + "05" + nops(146) + "050b": false,
	} {
		l := plain(t, s)
		if got, ok := code.Match(l); ok != want || !ok && got != nil {
			t.Errorf("P6.1: Match of %d instructions, %.40s..: got %t", len(l), s, ok)
		}
		compareBody(t, l)
	}
}

// TestDeepBodies holds the greatest depth: 40, and no bound for blocks beside one another but that of the instructions.
func TestDeepBodies(t *testing.T) {
	for _, op := range []string{"02", "03", "04"} {
		for s, want := range map[string]bool{
			nested(op, 39):                                   true,
			nested(op, 40):                                   true,
			nested(op, 41):                                   false,
			nested(op, 42):                                   false,
			nested(op, 150):                                  false,
			strings.Repeat(op, 41):                           false,
			strings.Repeat(op, 40):                           false,
			strings.Repeat(op+"0b", 41):                      true,
			strings.Repeat(op+"0b", 150):                     true,
			nested(op, 40) + nested(op, 40):                  true,
			nested(op, 40) + nested(op, 41):                  false,
			nested(op, 20) + nested(op, 21) + nested(op, 40): true,
			op + nested(op, 39) + nested(op, 39) + "0b":      true,
			op + nested(op, 39) + nested(op, 40) + "0b":      false,
			op + strings.Repeat(op+"0b", 100) + "0b":         true,
			strings.Repeat(op, 39) + "020b030b040b" + strings.Repeat("0b", 39):         true,
			strings.Repeat(op, 40) + "01" + strings.Repeat("0b", 40):                   true,
			strings.Repeat(op, 40) + "020b" + strings.Repeat("0b", 40):                 false,
			strings.Repeat("04", 40) + strings.Repeat("050b", 40):                      true,
			strings.Repeat("04", 41) + strings.Repeat("050b", 41):                      false,
			strings.Repeat("0405", 40) + strings.Repeat("0b", 40):                      true,
			strings.Repeat("0405", 41) + strings.Repeat("0b", 41):                      false,
			strings.Repeat("02", 39) + "04050b" + strings.Repeat("0b", 39):             true,
			strings.Repeat("02", 39) + "0405040b0b" + strings.Repeat("0b", 39):         false,
			strings.Repeat("02", 39) + "04020b050b" + strings.Repeat("0b", 39):         false,
			strings.Repeat("020304", 13) + op + "0b" + strings.Repeat("0b", 39):        true,
			strings.Repeat("020304", 13) + op + op + strings.Repeat("0b", 2+39):        false,
			strings.Repeat("020304", 13) + op + op + "05" + strings.Repeat("0b", 2+39): false,
		} {
			l := plain(t, s)
			if got, ok := code.Match(l); ok != want || !ok && got != nil {
				t.Errorf("P6.1: Match of %s: got %t", s, ok)
			}
			compareBody(t, l)
		}
	}
	blocks, _ := code.Match(plain(t, nested("03", 40)))
	for k, b := range blocks {
		if b != (code.Block{At: k, Else: -1, End: 79 - k}) {
			t.Errorf("P6.1: Match of 40 loops: number %d is %v", k, b)
		}
	}
	if len(blocks) != 40 {
		t.Errorf("P6.1: Match of 40 loops: got %d", len(blocks))
	}
}

// TestOtherOpcodes holds that nothing but a block, a loop and an if begins, nothing but an else parts, and nothing but an end ends.
func TestOtherOpcodes(t *testing.T) {
	for op := -300; op <= 600; op++ {
		x := api.Instr{Op: op}
		for _, l := range [][]api.Instr{
			{x}, {x, {Op: 0x0b}}, {{Op: 0x04}, x, {Op: 0x0b}}, {{Op: 0x02}, x}, {{Op: 0x04}, x}, {x, {Op: 0x05}, {Op: 0x0b}},
			{{Op: 0x04}, {Op: 0x05}, x, {Op: 0x0b}}, {{Op: 0x02}, x, {Op: 0x0b}, {Op: 0x0b}},
		} {
			compareBody(t, l)
		}
	}
	for _, far := range []int{1 << 8, 1 << 16, 1 << 32, -1 << 8, -1 << 32, math.MinInt} {
		for _, op := range []int{0x02, 0x03, 0x04, 0x05, 0x0b} {
			compareBody(t, []api.Instr{{Op: op + far}})
			compareBody(t, []api.Instr{{Op: 0x04}, {Op: op + far}, {Op: 0x0b}})
		}
	}
}

// TestOtherFields holds that only the opcodes count.
func TestOtherFields(t *testing.T) {
	for _, n := range []int64{1, 2, 3, 5, 11, -1, 1000, math.MinInt64, math.MaxInt64} {
		l := plain(t, "02 04 01 05 03 0e 0b 0b 0b")
		want, around, _ := match(l)
		for k := range l {
			l[k].A, l[k].B, l[k].L = n, -n, []int{int(n), 2, 4, 5, 11}
		}
		if got, ok := code.Match(l); !ok || !slices.Equal(got, want) {
			t.Errorf("P6.1: Match with the field %d: got %v, %t", n, got, ok)
		}
		for at := range l {
			if got := code.Targets(l, at); !slices.Equal(got, around[at]) {
				t.Errorf("P6.1: Targets with the field %d: got %v", n, got)
			}
		}
	}
}

func TestTargets(t *testing.T) {
	for _, c := range []struct {
		body string
		want [][]int
	}{
		{"01", [][]int{{}}},
		{"02 0b", [][]int{{}, {}}},
		{"02 01 0b", [][]int{{}, {0}, {}}},
		{"04 01 05 01 0b", [][]int{{}, {0}, {}, {0}, {}}},
		{"02 04 05 02 0b 0b 0c 0b 01", [][]int{{}, {0}, {0}, {1, 0}, {1, 0}, {0}, {0}, {}, {}}},
		{"02 03 04 01 05 01 0b 01 0b 01 0b 01", [][]int{{}, {0}, {1, 0}, {2, 1, 0}, {1, 0}, {2, 1, 0}, {1, 0}, {1, 0}, {0}, {0}, {}, {}}},
		{"03 01 0b 02 01 0b", [][]int{{}, {0}, {}, {}, {3}, {}}},
		{"02 03 01 0b 03 01 0b 0b", [][]int{{}, {0}, {1, 0}, {0}, {0}, {4, 0}, {0}, {}}},
		{"04 02 01 0b 05 02 01 0b 0b", [][]int{{}, {0}, {1, 0}, {0}, {}, {0}, {5, 0}, {0}, {}}},
	} {
		l := plain(t, c.body)
		for at, want := range c.want {
			if got := code.Targets(l, at); !slices.Equal(got, want) {
				t.Errorf("P6.1: Targets %s at %d: got %v, want %v", c.body, at, got, want)
			}
		}
		for _, at := range []int{-1, len(l)} {
			if got := code.Targets(l, at); got != nil {
				t.Errorf("P6.1: Targets %s at %d: got %v", c.body, at, got)
			}
		}
	}
}

func TestTargetsOfNoInstruction(t *testing.T) {
	for _, s := range []string{"", "01", "02 0b", "02 01 0b", "04 01 05 01 0b", nested("02", 40), nops(300), "02" + nops(298) + "0b"} {
		l := plain(t, s)
		for _, at := range []int{-1, -2, -300, len(l), len(l) + 1, len(l) + 300, 301, 1 << 32, math.MinInt, math.MaxInt} {
			if got := code.Targets(l, at); got != nil {
				t.Errorf("P6.1: Targets %.40s at %d: got %v", s, at, got)
			}
		}
	}
	// What is spare behind the instructions does not belong to them.
	if got := code.Targets(plain(t, "02 01 0b 01")[:3], 3); got != nil {
		t.Errorf("P6.1: Targets reads spare capacity: got %v", got)
	}
}

func TestTargetsDeep(t *testing.T) {
	l := plain(t, strings.Repeat("02", 40)+"01"+strings.Repeat("0b", 40))
	got := code.Targets(l, 40)
	for k := range 40 {
		if len(got) != 40 || got[k] != 39-k {
			t.Fatalf("P6.1: Targets within 40 blocks: got %v", got)
		}
	}
	if got := code.Targets(l, 0); len(got) != 0 {
		t.Errorf("P6.1: Targets of the outermost block: got %v", got)
	}
	if got := code.Targets(plain(t, strings.Repeat("020b", 149)+"0201"), 299); len(got) != 0 {
		t.Errorf("P0.1: Targets of what is no body: got %v", got)
	}
	beside := plain(t, strings.Repeat("020b", 148)+"02010b")
	if got := code.Targets(beside, 297); !slices.Equal(got, []int{296}) {
		t.Errorf("P6.1: Targets behind 148 blocks: got %v", got)
	}
	compareBody(t, beside)
}

// TestOfNoBody holds P0.1 and P0.3 where the document gives results no meaning.
func TestOfNoBody(t *testing.T) {
	long := make([]api.Instr, 1<<20)
	for k := range long {
		long[k].Op = 0x02 + k%4
	}
	for _, l := range [][]api.Instr{plain(t, "0b"), plain(t, "05"), plain(t, "02"), plain(t, "02 05 0b"), plain(t, "04 05 05 0b"), plain(t, nested("04", 41)), plain(t, nops(301)), {{Op: -1}, {Op: math.MaxInt}}, {{Op: 0x0e, L: make([]int, 1000)}}, long} {
		for _, at := range []int{math.MinInt, -1, 0, 1, len(l) - 1, len(l), math.MaxInt} {
			code.Targets(l, at)
		}
		whole := bytes.Repeat([]byte{5}, 40)
		fill(code.Put(whole[:3], l), 6)
		if !bytes.Equal(whole, bytes.Repeat([]byte{5}, 40)) {
			t.Error("P0.3: Put of what is no body changed its bytes")
		}
	}
	if got, ok := code.Match(long); ok || got != nil {
		t.Errorf("P6.1: Match of very many instructions: got %v, %t", got, ok)
	}
}

// bodies are some with all that an encoding may hold.
func bodies(t *testing.T) [][]api.Instr {
	t.Helper()
	mixed := []api.Instr{
		{Op: 0x41, A: math.MinInt32}, {Op: 0x04, A: api.I32}, {Op: 0x42, A: math.MaxInt64}, {Op: 0xa7}, {Op: 0x05}, {Op: 0x03, A: api.I64},
		{Op: 0x0e, A: 3, L: []int{0, 1000}}, {Op: 0x0b}, {Op: 0x28, A: 2, B: 300}, {Op: 0x0b}, {Op: 0x11, A: 7}, {Op: 0x0e, A: 1},
		{Op: 0x3f}, {Op: 0x02}, {Op: 0x0b}, {Op: 0x0e, A: 11, L: slices.Repeat([]int{11}, 50)}, {Op: 0x0c, A: 11}, {Op: 0x41, A: 11}, {Op: 0x0f},
	}
	long := make([]api.Instr, 300)
	for k := range long {
		long[k] = api.Instr{Op: 0x0e, A: 1000, L: []int{1000, k}}
	}
	l := [][]api.Instr{nil, {}, mixed, long}
	for _, s := range []string{"01", "02 0b", "04 05 0b", "04 01 05 1a 0b 03 0b", "02 04 05 02 0b 0b 0c 0b 01", nops(299), nops(300), nested("02", 40), nested("04", 40), strings.Repeat("030b", 150), "02" + nops(298) + "0b", strings.Repeat("04050b", 100)} {
		l = append(l, plain(t, s))
	}
	return l
}

// encode is Put, the slow way.
func encode(l []api.Instr) []byte {
	var parts [][]byte
	for _, x := range l {
		parts = append(parts, instr.Put(nil, x))
	}
	return append(bytes.Join(parts, nil), 0x0b)
}

func TestPut(t *testing.T) {
	for _, c := range []struct {
		l    []api.Instr
		want string
	}{
		{nil, "0b"},
		{[]api.Instr{}, "0b"},
		{plain(t, "01"), "01 0b"},
		{plain(t, "02 0b"), "02 40 0b 0b"},
		{[]api.Instr{{Op: 0x04, A: api.I32}, {Op: 0x41, A: -1}, {Op: 0x05}, {Op: 0x41, A: 64}, {Op: 0x0b}}, "04 7f 41 7f 05 41 c0 00 0b 0b"},
		{[]api.Instr{{Op: 0x0e, A: 3, L: []int{0, 1000}}, {Op: 0x28, A: 2, B: 300}}, "0e 02 00 e8 07 03 28 02 ac 02 0b"},
		{plain(t, nops(300)), nops(300) + "0b"},
		{plain(t, nested("02", 40)), coded(40) + "0b"},
	} {
		want := unhex(t, c.want)
		if got := code.Put(nil, c.l); !bytes.Equal(got, want) {
			t.Errorf("P6.2: Put %v: got %x, want %x", c.l, got, want)
		}
	}
}

// TestPutBehindBytes encodes behind bytes of several lengths, with and without spare capacity.
func TestPutBehindBytes(t *testing.T) {
	spare := append(make([]byte, 0, 40000), 0x80, 0x0b)
	long := bytes.Repeat([]byte{0x28, 0x0b, 0}, 100000)
	for _, l := range bodies(t) {
		want := encode(l)
		for _, b := range [][]byte{nil, {}, {0}, {0x0b}, {0xff, 0x80, 0x41}, spare, spare[:0], long} {
			if got := code.Put(b, l); !bytes.Equal(got, slices.Concat(b, want)) {
				t.Errorf("P6.2: Put %v behind %.20x: got %x, want %x", l, b, got, want)
			}
		}
	}
}

func TestGet(t *testing.T) {
	for _, c := range []struct {
		b    string
		want []api.Instr
		k    int
	}{
		{"0b", nil, 1},
		{"0b 0b", nil, 1},
		{"0b 06", nil, 1},
		{"01 0b 05 0b", plain(t, "01"), 2},
		{"02 40 0b 0b 0b", plain(t, "02 0b"), 4},
		{"04 40 05 0b 0b 05", plain(t, "04 05 0b"), 5},
		{"41 0b 0b ff", []api.Instr{{Op: 0x41, A: 11}}, 3},
		{"0e 01 0b 0b 0b 0b", []api.Instr{{Op: 0x0e, A: 11, L: []int{11}}}, 5},
		{"02 7e 42 02 0b 0b", []api.Instr{{Op: 0x02, A: api.I64}, {Op: 0x42, A: 2}, {Op: 0x0b}}, 6},
		{"0c 02 0b", []api.Instr{{Op: 0x0c, A: 2}}, 3},
		{"28 02 0b 0b", []api.Instr{{Op: 0x28, A: 2, B: 11}}, 4},
		{"10 05 0b", []api.Instr{{Op: 0x10, A: 5}}, 3},
		{nops(299) + "0b", plain(t, nops(299)), 300},
		{nops(300) + "0b", plain(t, nops(300)), 301},
		{nops(300) + "0b 06", plain(t, nops(300)), 301},
		{nops(300) + "0b 01 01 0b", plain(t, nops(300)), 301},
		{coded(40) + "0b", plain(t, nested("02", 40)), 121},
		{strings.Repeat("02400b", 150) + "0b", plain(t, strings.Repeat("020b", 150)), 451},
	} {
		l, k, err := code.Get(unhex(t, c.b))
		if !sameBodies(l, c.want) || k != c.k || err != api.OK {
			t.Errorf("P6.2: Get %s: got %v, %d, %d; want %v, %d", c.b, l, k, err, c.want, c.k)
		}
	}
	// What is spare behind the bytes does not belong to them.
	if _, _, err := code.Get([]byte{0x01, 0x0b}[:1]); err != api.ErrMore {
		t.Errorf("P6.2: Get reads spare capacity: got %d", err)
	}
}

// TestGetErrors holds the errors, also those of several faults at once, of which the first one's counts.
func TestGetErrors(t *testing.T) {
	for want, faults := range map[api.Errno][]string{
		api.ErrMore: {
			"", "01", "02", "02 40", "02 40 0b", "04 40 05", "04 40 05 0b", "01 0c", "01 0c 80", "41", "0e 02 00", "0e 00 0b", "41 0b", "28", "28 02",
			"05", "01 05", "02 40 05", "02 40 05 0b", "04 40 05 05", "04 40 05 05 0b", "05 0c", "02 40 05 41 80",
			nops(299), nops(300), nops(300) + "0c", nops(300) + "0e 02 00", nops(300) + "02", nops(300) + "41 80", nops(299) + "05", nops(300) + "28 02",
			strings.Repeat("0240", 41), coded(41), strings.Repeat("0240", 300), strings.Repeat("0240", 300) + "0c", strings.Repeat("05", 300),
		},
		api.ErrForm: {
			"06", "01 06", "02 41", "02 40 06", "0c e9 07", "0c e9 07 0b", "01 0e 33", "3f 01 0b", "41 80 00 0b", "ff 0b", "06 0b",
			"05 0b", "01 05 0b", "02 40 05 0b 0b", "03 7f 05 0b 0b", "04 40 05 05 0b 0b", "04 40 0b 05 0b", "05 0b 0c", "05 0b 06",
			"05 06", "02 40 05 06", "04 40 05 05 06", "05 02 41", "04 40 05 05 0b 0b 0b", "05 05 0b",
			coded(41) + "0b", strings.Repeat("0240", 41) + "06", strings.Repeat("0340", 41) + strings.Repeat("0b", 42), coded(42) + "0b", coded(41) + "05 0b", coded(150) + "0b",
			nops(300) + "06", nops(300) + "02 41", nops(300) + "0c e9 07", nops(300) + "ff", nops(299) + "06", nops(299) + "05 0b", strings.Repeat("05", 300) + "0b", strings.Repeat("05", 300) + "06",
			nops(298) + "05 05 0b", strings.Repeat("0240", 300) + "0c e9 07",
		},
		api.ErrLimit: {
			nops(301), nops(301) + "0b", nops(302), nops(302) + "0b", nops(10000), nops(301) + "06", nops(301) + "0c", nops(301) + "0c e9 07",
			nops(300) + "02 40", nops(300) + "05", nops(300) + "05 0b", nops(300) + "0c 00", nops(300) + "0e 00 00 06", nops(300) + "02 40 06", nops(300) + "02 40 0b 0b",
			"02 40" + nops(299) + "0b", "02 40" + nops(299) + "0b 0b", "02 40" + nops(299) + "0b 06", nops(299) + "02 40 0b 0b", nops(299) + "02 40 0b", strings.Repeat("02400b", 150) + "01 0b",
			"05" + nops(300), "05" + nops(300) + "0b", strings.Repeat("05", 301), strings.Repeat("05", 301) + "0b", "02 40 05" + nops(299) + "06",
			strings.Repeat("0240", 301), coded(151) + "0b", strings.Repeat("0240", 301) + "06", coded(41) + nops(219) + "0b", coded(150) + "01 06", strings.Repeat("0e0000", 301),
		},
	} {
		for _, s := range faults {
			b := unhex(t, s)
			l, k, err := code.Get(b)
			if l != nil || k != 0 || err != want {
				t.Errorf("P6.2: Get %.80s (%d bytes): got %v, %d, %d; want the error %d", s, len(b), l, k, err, want)
			}
			compareBytes(t, b)
		}
	}
	for _, b := range [][]byte{nil, {}, make([]byte, 0, 9)} {
		if l, k, err := code.Get(b); l != nil || k != 0 || err != api.ErrMore {
			t.Errorf("P6.2: Get of no bytes: got %v, %d, %d", l, k, err)
		}
	}
}

// TestThereAndBack decodes what was encoded: whole, with bytes behind it that do not belong to it, and each proper prefix.
func TestThereAndBack(t *testing.T) {
	for _, l := range bodies(t) {
		b := code.Put(nil, l)
		for _, behind := range [][]byte{nil, {0}, {0x0b}, {0x80}, {0xff, 0xff}, {0x05, 0x0b}, {0x06}, b} {
			got, k, err := code.Get(slices.Concat(b, behind))
			if !sameBodies(got, l) || k != len(b) || err != api.OK {
				t.Errorf("P6.2: Get %.40x with %.20x behind it: got %v, %d, %d; want %v", b, behind, got, k, err, l)
			}
		}
		for cut := range b {
			if got, k, err := code.Get(b[:cut]); got != nil || k != 0 || err != api.ErrMore {
				t.Errorf("P6.2: Get of the first %d bytes of %.40x: got %v, %d, %d", cut, b, got, k, err)
			}
		}
	}
}

// TestGreatestBody takes the longest encoding there and back.
func TestGreatestBody(t *testing.T) {
	l := make([]api.Instr, 300)
	for k := range l {
		l[k] = api.Instr{Op: 0x0e, A: 1000, L: slices.Repeat([]int{700 + k}, 50)}
	}
	b := code.Put([]byte{0x0b}, l)
	if !bytes.Equal(b[1:], encode(l)) {
		t.Errorf("P6.2: Put of the longest encoding: got %.40x, %d bytes", b, len(b))
	}
	if got, k, err := code.Get(b[1:]); !sameBodies(got, l) || k != len(b)-1 || err != api.OK {
		t.Errorf("P6.2: Get of the longest encoding: got %d instructions, %d, %d", len(got), k, err)
	}
}

// TestEveryInstruction takes each opcode through an encoding, alone and in a block.
func TestEveryInstruction(t *testing.T) {
	for op := range 256 {
		x := api.Instr{Op: op}
		for _, l := range [][]api.Instr{{x}, {{Op: 0x02}, x, {Op: 0x0b}}, {{Op: 0x04}, x, {Op: 0x0b}}, {x, {Op: 0x0b}}, {x, {Op: 0x05}, {Op: 0x0b}}} {
			if !instr.May(x) {
				continue
			}
			compareBytes(t, encode(l))
			if _, _, ok := match(l); !ok {
				continue
			}
			if got, k, err := code.Get(code.Put(nil, l)); !sameBodies(got, l) || k != len(encode(l)) || err != api.OK {
				t.Errorf("P6.2: %v there and back: got %v, %d, %d", l, got, k, err)
			}
		}
	}
}

// TestEveryShortString goes through all strings of up to two bytes, and through all joined from up to five of these pieces.
func TestEveryShortString(t *testing.T) {
	for x := range 256 {
		compareBytes(t, []byte{byte(x)})
		for y := range 256 {
			compareBytes(t, []byte{byte(x), byte(y)})
			compareBytes(t, []byte{byte(x), byte(y), 0x0b})
			compareBytes(t, []byte{0x04, 0x40, byte(x), byte(y), 0x0b, 0x0b})
		}
	}
	pieces := []string{"\x01", "\x02\x40", "\x03\x7f", "\x04\x7e", "\x05", "\x0b", "\x06", "\x0c"}
	each(pieces, 5, func(l []string) { compareBytes(t, []byte(strings.Join(l, ""))) })
}

// TestEverySmallFault goes through encodings in which a byte is another, missing, or too much.
func TestEverySmallFault(t *testing.T) {
	for _, l := range bodies(t) {
		good := encode(l)
		if len(good) > 100 {
			continue
		}
		for at := range good {
			compareBytes(t, slices.Delete(bytes.Clone(good), at, at+1))
			for n := range 256 {
				b := bytes.Clone(good)
				b[at] = byte(n)
				compareBytes(t, b)
				compareBytes(t, b[:at+1])
				compareBytes(t, slices.Insert(bytes.Clone(good), at, byte(n)))
			}
		}
	}
}

// TestLongStrings holds Get against strings of very many bytes, each of which could go on.
func TestLongStrings(t *testing.T) {
	for x := range 256 {
		for _, y := range []byte{0, 1, 0x02, 0x05, 0x0b, 0x40, 0x7f, 0x80, 0xff} {
			compareBytes(t, bytes.Repeat([]byte{byte(x), y}, 400))
			compareBytes(t, append([]byte{byte(x), 0}, bytes.Repeat([]byte{y}, 400)...))
		}
	}
	if l, k, err := code.Get(make([]byte, 1<<24)); l != nil || k != 0 || err != api.ErrLimit {
		t.Errorf("P6.2: Get of many bytes: got %d instructions, %d, %d", len(l), k, err)
	}
	if l, k, err := code.Get(bytes.Repeat([]byte{0x0b}, 1<<24)); len(l) != 0 || k != 1 || err != api.OK {
		t.Errorf("P6.2: Get of many ends: got %d instructions, %d, %d", len(l), k, err)
	}
}

// fill overwrites b and what is spare behind it.
func fill[E any](b []E, x E) {
	b = b[:cap(b)]
	for i := range b {
		b[i] = x
	}
}

// spoil overwrites a body, with each L, and what is spare behind all of them.
func spoil(l []api.Instr) {
	for _, x := range l {
		fill(x.L, 77)
	}
	fill(l, api.Instr{Op: 0x05, A: 77, B: 77, L: []int{77}})
}

// copyOf copies a body with all that is spare behind it and behind each L.
func copyOf(l []api.Instr) []api.Instr {
	all := slices.Clone(l[:cap(l)])
	for k := range all {
		all[k].L = slices.Clone(all[k].L[:cap(all[k].L)])
	}
	return all
}

// sameWithSpare tells whether l is still the same as when it was copied.
func sameWithSpare(l, copied []api.Instr) bool {
	return sameBodies(copyOf(l), copied)
}

// roomy makes bodies, and lists that are none, that have something spare behind them and behind each L.
func roomy(t *testing.T, s string) []api.Instr {
	t.Helper()
	l := plain(t, s)
	for k := range l {
		if l[k].Op == 0x0e {
			l[k].L = []int{900, 7, 3, 5, 5, 5}[:3]
		}
	}
	return slices.Concat(l, plain(t, "0b 05 02 01"), make([]api.Instr, 9))[:len(l)]
}

// TestArgumentsStay holds the calls against P0.3: bytes, instructions and each L stay as they are, with what is spare behind them.
func TestArgumentsStay(t *testing.T) {
	for _, s := range []string{"", "01", "0e", "02 0e 0b", "04 0e 05 0e 0b", "02 04 05 02 0b 0b 0e 0b 01", "02", "0b", "05", "04 05 05 0b", nops(300), nops(301), nested("02", 41)} {
		l := roomy(t, s)
		want := copyOf(l)
		text := bytes.Repeat([]byte{5}, 2000)
		code.Match(l)
		for at := -1; at <= len(l); at++ {
			code.Targets(l, at)
		}
		code.Put(nil, l)
		code.Put(text[:3], l)
		code.Put(text[:0], l)
		if !sameWithSpare(l, want) {
			t.Errorf("P0.3: the body %.40s became %v", s, l[:cap(l)])
		}
		if !bytes.Equal(text, bytes.Repeat([]byte{5}, 2000)) {
			t.Errorf("P0.3: Put %.40s changed its bytes", s)
		}
	}
	for _, s := range []string{"", "0b", "01 0b", "04 40 0e 01 05 02 05 0b 0b", "05 0b", "06", "0c", nops(301), "01 01"} {
		whole := append(unhex(t, s), 0x0b, 9, 9)
		want := bytes.Clone(whole)
		code.Get(whole[:len(whole)-3])
		if !bytes.Equal(whole, want) {
			t.Errorf("P0.3: Get changed %.40s to %x", s, whole)
		}
	}
}

// TestPutIsFresh holds the results of Put against P0.3: no shared memory, neither used nor spare, and none kept.
func TestPutIsFresh(t *testing.T) {
	for _, s := range []string{"", "01", "0e", "02 0e 0b", "04 05 0b", nops(300)} {
		for _, behind := range []int{0, 3, 400} {
			l, whole := roomy(t, s), bytes.Repeat([]byte{5}, 800)
			keep := copyOf(l)
			first, second := code.Put(whole[:behind], l), code.Put(whole[:behind], l)
			want := bytes.Clone(second)
			fill(first, 6)
			if !bytes.Equal(whole, bytes.Repeat([]byte{5}, 800)) || !sameWithSpare(l, keep) {
				t.Errorf("P0.3: what Put %.40s returns is shared with its arguments", s)
			}
			if !bytes.Equal(second, want) {
				t.Errorf("P0.3: what Put %.40s returns is shared with another result", s)
			}
			fill(whole, 7)
			spoil(l)
			if !bytes.Equal(second, want) {
				t.Errorf("P0.3: what Put %.40s returns is shared with its arguments", s)
			}
		}
	}
}

// TestGetIsFresh holds the results of Get against P0.3.
func TestGetIsFresh(t *testing.T) {
	for _, s := range []string{"0b", "01 0b", "0e 02 00 e8 07 03 0b", "0e 02 05 05 05 0e 02 05 05 05 0b", "04 40 0e 01 05 02 05 0e 01 05 02 0b 0b", nops(300) + "0b"} {
		b := unhex(t, s)
		first, _, _ := code.Get(b)
		second, _, _ := code.Get(b)
		third, _, _ := code.Get(b)
		want := copyOf(second[:len(second):len(second)])
		spoil(first)
		if !bytes.Equal(b, unhex(t, s)) {
			t.Errorf("P0.3: what Get %.40s returns is shared with its bytes", s)
		}
		if !sameBodies(second, want) {
			t.Errorf("P0.3: what Get %.40s returns is shared with another result", s)
		}
		fill(b, 0)
		if !sameBodies(second, want) {
			t.Errorf("P0.3: what Get %.40s returns is shared with its bytes", s)
		}
		if again, _, err := code.Get(unhex(t, s)); !sameBodies(again, want) || err != api.OK {
			t.Errorf("P0.3: Get %.40s again: got %v, %d", s, again, err)
		}
		for k := range third {
			fill(third[k].L, 88)
			for j := range third {
				if j > k && !slices.Equal(third[j].L, want[j].L) {
					t.Errorf("P0.3: Get %.40s: the lists of %d and %d are shared", s, k, j)
				}
			}
		}
	}
}

// TestBlocksAreFresh holds the results of Match and Targets against P0.3.
func TestBlocksAreFresh(t *testing.T) {
	for _, s := range []string{"02 0b", "02 0e 0b", "02 03 04 0e 05 01 0b 0b 0b", "04 01 05 1a 0b 03 0b", strings.Repeat("02", 40) + "01" + strings.Repeat("0b", 40)} {
		l := roomy(t, s)
		keep := copyOf(l)
		blocks, around, _ := match(l)
		for at := range l {
			first, second := code.Targets(l, at), code.Targets(l, at)
			fill(first, 77)
			if !slices.Equal(second, around[at]) || !slices.Equal(code.Targets(l, at), around[at]) {
				t.Errorf("P0.3: what Targets %.40s at %d returns is shared with another result", s, at)
			}
		}
		first, _ := code.Match(l)
		second, _ := code.Match(l)
		fill(first, code.Block{At: 77, Else: 77, End: 77})
		if third, ok := code.Match(l); !slices.Equal(second, blocks) || !slices.Equal(third, blocks) || !ok {
			t.Errorf("P0.3: what Match %.40s returns is shared with another result", s)
		}
		if !sameWithSpare(l, keep) {
			t.Errorf("P0.3: what Match or Targets of %.40s returns is shared with the body", s)
		}
		inner := code.Targets(l, 1)
		spoil(l)
		if !slices.Equal(second, blocks) || !slices.Equal(inner, around[1]) {
			t.Errorf("P0.3: what Match or Targets of %.40s returns is shared with the body", s)
		}
	}
}
