package ints_test

import (
	"fmt"
	"math"
	"math/big"
	"slices"
	"strings"
	"testing"

	"diapause/api"
	"diapause/ints"
)

// operation is an instruction as the tests know it: by its name, with the kinds of its operands and of its result.
type operation struct {
	name   string
	kinds  []int
	result int
}

// operations are all instructions by their opcodes, written out from the lists of the chapter.
func operations() map[int]operation {
	comparisons := "eq ne lt_s lt_u gt_s gt_u le_s le_u ge_s ge_u"
	counts := "clz ctz popcnt"
	arithmetic := "add sub mul div_s div_u rem_s rem_u and or xor shl shr_s shr_u rotl rotr"
	all := map[int]operation{
		0x45: {"eqz", []int{api.I32}, api.I32},
		0x50: {"eqz", []int{api.I64}, api.I32},
		0xa7: {"wrap", []int{api.I64}, api.I32},
		0xac: {"extend_s", []int{api.I32}, api.I64},
		0xad: {"extend_u", []int{api.I32}, api.I64},
	}
	list := func(first int, names string, result int, kinds ...int) {
		for k, name := range strings.Fields(names) {
			all[first+k] = operation{name, kinds, result}
		}
	}
	list(0x46, comparisons, api.I32, api.I32, api.I32)
	list(0x67, counts, api.I32, api.I32)
	list(0x6a, arithmetic, api.I32, api.I32, api.I32)
	list(0x51, comparisons, api.I32, api.I64, api.I64)
	list(0x79, counts, api.I64, api.I64)
	list(0x7c, arithmetic, api.I64, api.I64, api.I64)
	return all
}

// opcode finds the opcode of a name, whose operands are of this kind.
func opcode(t *testing.T, name string, kind int) int {
	t.Helper()
	for op, x := range operations() {
		if x.name == name && x.kinds[0] == kind {
			return op
		}
	}
	t.Fatalf("no %s of kind %d", name, kind)
	return 0
}

// numbers are opcodes and what is beside them, negative numbers, and numbers that are opcodes in their low bits alone.
func numbers() []int {
	l := []int{math.MinInt, math.MinInt + 1, math.MinInt32, math.MaxInt32, math.MaxInt - 1, math.MaxInt}
	for op := -600; op <= 600; op++ {
		l = append(l, op)
	}
	for op := range operations() {
		l = append(l, op+1<<16, op+1<<31, op+1<<32, op-1<<32, op+1<<62, op+math.MinInt)
	}
	return l
}

func val(kind int, n int64) api.Val {
	return api.Val{Kind: kind, N: n}
}

func width(kind int) uint {
	return map[int]uint{api.I32: 32, api.I64: 64}[kind]
}

// modulus returns 2 to the number of a kind's bits.
func modulus(kind int) *big.Int {
	return new(big.Int).Lsh(big.NewInt(1), width(kind))
}

// low returns the lowest bits of x as an unsigned number.
func low(kind int, x *big.Int) *big.Int {
	return new(big.Int).Mod(x, modulus(kind))
}

// around returns the value of this kind to which x comes when it goes round.
func around(kind int, x *big.Int) api.Val {
	x = low(kind, x)
	if x.Bit(int(width(kind))-1) == 1 {
		x.Sub(x, modulus(kind))
	}
	return val(kind, x.Int64())
}

// edges are integers at which something changes, and ordinary ones between them.
func edges() []int64 {
	l := []int64{0, 7, -7, 100, -100, 12345678, 0x55555555, 0xaaaaaaaa, 0x5555555555555555, -0x5555555555555556,
		0x0123456789abcdef, -0x0123456789abcdef, 3037000499, 3037000500, 46340, 46341, 65537}
	for shift := range 64 {
		if shift > 8 && shift < 30 && shift%7 != 0 || shift > 34 && shift < 61 && shift%7 != 0 {
			continue
		}
		for d := int64(-1); d <= 1; d++ {
			l = append(l, 1<<shift+d, -(1<<shift)+d)
		}
	}
	for n := int64(30); n <= 66; n++ {
		l = append(l, n, -n)
	}
	slices.Sort(l)
	return slices.Compact(l)
}

// values are the edges that this kind holds, without asking the package.
func values(kind int) []api.Val {
	var l []api.Val
	for _, n := range edges() {
		if kind == api.I64 || n >= -1<<31 && n < 1<<31 {
			l = append(l, val(kind, n))
		}
	}
	return l
}

// wrong are values that may not be.
func wrong() []api.Val {
	l := []api.Val{{}}
	for _, kind := range []int{0, 3, 4, -1, -2, 0x7e, 0x7f, 257, 258, 1<<32 + 1, 1<<32 + 2, math.MinInt, math.MinInt + 1, math.MaxInt} {
		for _, n := range []int64{0, 1, -1, math.MinInt64} {
			l = append(l, val(kind, n))
		}
	}
	for _, n := range []int64{1 << 31, -1<<31 - 1, 1<<32 - 1, 1 << 32, 1<<32 + 1, -1 << 32, math.MaxInt64, math.MinInt64} {
		l = append(l, val(api.I32, n))
	}
	return l
}

func TestMay(t *testing.T) {
	for _, kind := range []int{api.I32, api.I64} {
		for _, v := range values(kind) {
			if !ints.May(v) {
				t.Errorf("P4.1: May(%v): got false", v)
			}
		}
	}
	for _, v := range wrong() {
		if ints.May(v) {
			t.Errorf("P4.1: May(%v): got true", v)
		}
	}
	for _, c := range []struct {
		v    api.Val
		want bool
	}{
		{val(api.I32, 1<<31-1), true}, {val(api.I32, 1<<31), false},
		{val(api.I32, -1<<31), true}, {val(api.I32, -1<<31-1), false},
		{val(api.I64, math.MaxInt64), true}, {val(api.I64, math.MinInt64), true}, {val(api.I64, 1<<31), true},
		{val(0, 0), false}, {val(3, 0), false}, {val(-1, 5), false},
	} {
		if got := ints.May(c.v); got != c.want {
			t.Errorf("P4.1: May(%v): got %v", c.v, got)
		}
	}
}

func TestWrap(t *testing.T) {
	for _, c := range []struct{ n, want int64 }{
		{0, 0}, {5, 5}, {-5, -5},
		{1<<31 - 1, 1<<31 - 1}, {1 << 31, -1 << 31}, {1<<31 + 1, -1<<31 + 1},
		{-1 << 31, -1 << 31}, {-1<<31 - 1, 1<<31 - 1},
		{1<<32 - 1, -1}, {1 << 32, 0}, {1<<32 + 1, 1}, {-1<<32 - 1, -1}, {-1 << 32, 0}, {-1<<32 + 1, 1},
		{3<<31 - 1, 1<<31 - 1}, {3 << 31, -1 << 31}, {-3 << 31, -1 << 31}, {-3<<31 - 1, 1<<31 - 1},
		{math.MaxInt64, -1}, {math.MinInt64, 0}, {math.MinInt64 + 7, 7},
	} {
		if got := ints.Wrap(api.I32, c.n); got != val(api.I32, c.want) {
			t.Errorf("P4.1: Wrap(I32, %d): got %v, want %d", c.n, got, c.want)
		}
		if got := ints.Wrap(api.I64, c.n); got != val(api.I64, c.n) {
			t.Errorf("P4.1: Wrap(I64, %d): got %v", c.n, got)
		}
		for _, v := range wrong() {
			if got := ints.Wrap(v.Kind, c.n); v.Kind != api.I32 && got != (api.Val{}) {
				t.Errorf("P4.1: Wrap(%d, %d): got %v", v.Kind, c.n, got)
			}
		}
	}
}

// TestWrapAroundMultiples goes to both sides of many multiples of 2^31 and 2^32.
func TestWrapAroundMultiples(t *testing.T) {
	var l []int64
	for _, k := range []int64{1, 2, 3, 4, 5, 1000, 1<<20 + 1, 1<<31 - 1, 1 << 31} {
		for d := int64(-2); d <= 2; d++ {
			l = append(l, k<<31+d, -k<<31+d, k<<32+d, -k<<32+d)
		}
	}
	for _, n := range append(l, edges()...) {
		for _, kind := range []int{api.I32, api.I64} {
			want := around(kind, big.NewInt(n))
			if got := ints.Wrap(kind, n); got != want || !ints.May(got) {
				t.Errorf("P4.1: Wrap(%d, %d): got %v, want %v", kind, n, got, want)
			}
		}
	}
}

func TestKinds(t *testing.T) {
	all := operations()
	if len(all) != 2*(1+10+3+15)+3 {
		t.Fatalf("%d instructions", len(all))
	}
	for _, op := range numbers() {
		want, has := all[op]
		kinds, result, ok := ints.Kinds(op)
		if !slices.Equal(kinds, want.kinds) || result != want.result || ok != has {
			t.Errorf("P4.1: Kinds(%#x): got %v, %d, %v; want %v, %d, %v", op, kinds, result, ok, want.kinds, want.result, has)
		}
		if !has && kinds != nil {
			t.Errorf("P4.1: Kinds(%#x): got a list that is not nil", op)
		}
	}
}

// TestKindsAnew holds P0.3: what was answered may be changed, with what is spare behind it, and no other answer changes.
func TestKindsAnew(t *testing.T) {
	for op, x := range operations() {
		first, _, _ := ints.Kinds(op)
		second, _, _ := ints.Kinds(op)
		first = first[:cap(first)]
		for i := range first {
			first[i] = -9
		}
		third, _, _ := ints.Kinds(op)
		if !slices.Equal(second, x.kinds) || !slices.Equal(third, x.kinds) {
			t.Errorf("P0.3: Kinds(%#x): after a change of the first answer %v and %v", op, second, third)
		}
	}
}

// written writes the bits of v as digits, all of them.
func written(v api.Val) string {
	return fmt.Sprintf("%0*b", width(v.Kind), low(v.Kind, big.NewInt(v.N)))
}

// alone is the slow way to do an instruction with one operand: by its digits.
func alone(name string, v api.Val) api.Val {
	digits := written(v)
	switch name {
	case "eqz":
		if strings.Contains(digits, "1") {
			return val(api.I32, 0)
		}
		return val(api.I32, 1)
	case "clz":
		return val(v.Kind, int64(len(digits)-len(strings.TrimLeft(digits, "0"))))
	case "ctz":
		return val(v.Kind, int64(len(digits)-len(strings.TrimRight(digits, "0"))))
	case "popcnt":
		return val(v.Kind, int64(strings.Count(digits, "1")))
	case "wrap":
		return around(api.I32, big.NewInt(v.N))
	case "extend_s":
		return val(api.I64, v.N)
	case "extend_u":
		return val(api.I64, low(v.Kind, big.NewInt(v.N)).Int64())
	}
	panic(name)
}

func TestOneKnown(t *testing.T) {
	for _, c := range []struct {
		name    string
		kind    int
		n, want int64
	}{
		{"eqz", api.I32, 0, 1}, {"eqz", api.I32, 1, 0}, {"eqz", api.I32, -1 << 31, 0},
		{"eqz", api.I64, 0, 1}, {"eqz", api.I64, -1, 0}, {"eqz", api.I64, 1 << 32, 0}, {"eqz", api.I64, math.MinInt64, 0},
		{"clz", api.I32, 0, 32}, {"clz", api.I32, -1, 0}, {"clz", api.I32, 1, 31}, {"clz", api.I32, -1 << 31, 0}, {"clz", api.I32, 1 << 16, 15},
		{"clz", api.I64, 0, 64}, {"clz", api.I64, -1, 0}, {"clz", api.I64, 1, 63}, {"clz", api.I64, 1 << 32, 31}, {"clz", api.I64, math.MinInt64, 0},
		{"ctz", api.I32, 0, 32}, {"ctz", api.I32, -1, 0}, {"ctz", api.I32, 1, 0}, {"ctz", api.I32, -1 << 31, 31}, {"ctz", api.I32, 12, 2},
		{"ctz", api.I64, 0, 64}, {"ctz", api.I64, -1, 0}, {"ctz", api.I64, 1 << 32, 32}, {"ctz", api.I64, math.MinInt64, 63},
		{"popcnt", api.I32, 0, 0}, {"popcnt", api.I32, -1, 32}, {"popcnt", api.I32, -1 << 31, 1}, {"popcnt", api.I32, 7, 3},
		{"popcnt", api.I64, 0, 0}, {"popcnt", api.I64, -1, 64}, {"popcnt", api.I64, math.MinInt64, 1}, {"popcnt", api.I64, 1<<40 - 1, 40},
		{"wrap", api.I64, 1 << 31, -1 << 31}, {"wrap", api.I64, 1 << 32, 0}, {"wrap", api.I64, 1<<32 - 1, -1}, {"wrap", api.I64, -1<<31 - 1, 1<<31 - 1},
		{"extend_s", api.I32, -1, -1}, {"extend_s", api.I32, 5, 5}, {"extend_s", api.I32, -1 << 31, -1 << 31},
		{"extend_u", api.I32, -1, 1<<32 - 1}, {"extend_u", api.I32, 5, 5}, {"extend_u", api.I32, -1 << 31, 1 << 31},
	} {
		op := opcode(t, c.name, c.kind)
		want := val(operations()[op].result, c.want)
		if got, ok := ints.One(op, val(c.kind, c.n)); got != want || !ok {
			t.Errorf("P4.2: %s of kind %d of %d: got %v, %v, want %v", c.name, c.kind, c.n, got, ok, want)
		}
	}
}

// TestOne does every opcode, and what is beside it, on values of both kinds.
func TestOne(t *testing.T) {
	all := operations()
	for _, kind := range []int{api.I32, api.I64} {
		for _, v := range values(kind) {
			for _, op := range numbers() {
				want, wanted := api.Val{}, false
				if x, has := all[op]; has && slices.Equal(x.kinds, []int{kind}) {
					want, wanted = alone(x.name, v), true
				}
				if got, ok := ints.One(op, v); got != want || ok != wanted {
					t.Errorf("P4.2: One(%#x, %v): got %v, %v; want %v, %v", op, v, got, ok, want, wanted)
				}
			}
		}
	}
}

// TestEveryBit counts in values of one bit, and in those where one bit alone is missing.
func TestEveryBit(t *testing.T) {
	for _, kind := range []int{api.I32, api.I64} {
		clz, ctz, popcnt := opcode(t, "clz", kind), opcode(t, "ctz", kind), opcode(t, "popcnt", kind)
		for bit := range int64(width(kind)) {
			v := around(kind, new(big.Int).Lsh(big.NewInt(1), uint(bit)))
			for op, want := range map[int]int64{clz: int64(width(kind)) - 1 - bit, ctz: bit, popcnt: 1} {
				if got, ok := ints.One(op, v); got != val(kind, want) || !ok {
					t.Errorf("P4.2: One(%#x, %v): got %v, %v, want %d", op, v, got, ok, want)
				}
			}
			v.N = ^v.N
			for _, op := range []int{clz, ctz, popcnt} {
				want := alone(operations()[op].name, v)
				if got, ok := ints.One(op, v); got != want || !ok {
					t.Errorf("P4.2: One(%#x, %v): got %v, %v, want %v", op, v, got, ok, want)
				}
			}
		}
	}
}

func TestOneWrong(t *testing.T) {
	for _, op := range numbers() {
		for _, v := range wrong() {
			if got, ok := ints.One(op, v); got != (api.Val{}) || ok {
				t.Errorf("P4.2: One(%#x, %v): got %v, %v", op, v, got, ok)
			}
		}
	}
}

// moved shifts or rotates digits by n places, one after the other; what comes in is told by their sign and by the name.
func moved(name, digits string, n int) string {
	sign := digits[:1]
	for range n {
		first, last, end := digits[:1], digits[len(digits)-1:], len(digits)-1
		switch name {
		case "shl":
			digits = digits[1:] + "0"
		case "shr_s":
			digits = sign + digits[:end]
		case "shr_u":
			digits = "0" + digits[:end]
		case "rotl":
			digits = digits[1:] + first
		case "rotr":
			digits = last + digits[:end]
		default:
			panic(name)
		}
	}
	return digits
}

// asked is the slow way to compare: by integers without bounds. The second result is false if the name is none of these.
func asked(name string, a, b api.Val) (bool, bool) {
	name, unsigned := strings.CutSuffix(name, "_u")
	x, y := big.NewInt(a.N), big.NewInt(b.N)
	if unsigned {
		x, y = low(a.Kind, x), low(b.Kind, y)
	}
	order := x.Cmp(y)
	switch name {
	case "eq":
		return order == 0, true
	case "ne":
		return order != 0, true
	case "lt_s", "lt":
		return order < 0, true
	case "gt_s", "gt":
		return order > 0, true
	case "le_s", "le":
		return order <= 0, true
	case "ge_s", "ge":
		return order >= 0, true
	}
	return false, false
}

// divided is the slow way to divide: Quo and Rem of big numbers round towards zero.
func divided(name string, a, b api.Val) (api.Val, int) {
	if b.N == 0 {
		return api.Val{}, api.TrapZero
	}
	x, y := big.NewInt(a.N), big.NewInt(b.N)
	if strings.HasSuffix(name, "_u") {
		x, y = low(a.Kind, x), low(b.Kind, y)
	}
	if strings.HasPrefix(name, "rem") {
		return around(a.Kind, x.Rem(x, y)), api.TrapNone
	}
	z := x.Quo(x, y)
	if name == "div_s" && z.Cmp(new(big.Int).Rsh(modulus(a.Kind), 1)) == 0 {
		return api.Val{}, api.TrapOver
	}
	return around(a.Kind, z), api.TrapNone
}

// both is the slow way to do an instruction with two operands.
func both(name string, a, b api.Val) (api.Val, int) {
	if yes, ok := asked(name, a, b); ok {
		if yes {
			return val(api.I32, 1), api.TrapNone
		}
		return val(api.I32, 0), api.TrapNone
	}
	x, y := big.NewInt(a.N), big.NewInt(b.N)
	z := new(big.Int)
	switch name {
	case "add":
		z.Add(x, y)
	case "sub":
		z.Sub(x, y)
	case "mul":
		z.Mul(x, y)
	case "and":
		z.And(x, y)
	case "or":
		z.Or(x, y)
	case "xor":
		z.Xor(x, y)
	case "div_s", "div_u", "rem_s", "rem_u":
		return divided(name, a, b)
	default:
		places := new(big.Int).Mod(y, big.NewInt(int64(width(b.Kind)))).Int64()
		z.SetString(moved(name, written(a), int(places)), 2)
	}
	return around(a.Kind, z), api.TrapNone
}

// TestTwoKnown holds Two against results that are written out, for either kind.
func TestTwoKnown(t *testing.T) {
	for _, c := range []struct {
		name       string
		a, b, want int64
	}{
		{"eq", 5, 5, 1}, {"eq", 5, -5, 0}, {"ne", 5, 5, 0}, {"ne", 5, 6, 1},
		{"lt_s", -1, 1, 1}, {"lt_u", -1, 1, 0}, {"lt_s", 1, 1, 0}, {"lt_u", 1, 2, 1}, {"lt_u", 1, 1, 0},
		{"gt_s", -1, 1, 0}, {"gt_u", -1, 1, 1}, {"gt_s", 2, 1, 1}, {"gt_s", 1, 1, 0}, {"gt_u", 1, 1, 0},
		{"le_s", -1, 1, 1}, {"le_u", -1, 1, 0}, {"le_s", 1, 1, 1}, {"le_u", 1, 1, 1}, {"le_s", 2, 1, 0},
		{"ge_s", -1, 1, 0}, {"ge_u", -1, 1, 1}, {"ge_s", 1, 1, 1}, {"ge_u", 1, 1, 1}, {"ge_u", 0, 1, 0},
		{"add", 2, 3, 5}, {"add", -2, 2, 0}, {"sub", 2, 3, -1}, {"sub", -2, -3, 1}, {"mul", -7, 6, -42}, {"mul", -7, -6, 42},
		{"div_s", 7, 2, 3}, {"div_s", -7, 2, -3}, {"div_s", 7, -2, -3}, {"div_s", -7, -2, 3}, {"div_s", 1, 2, 0}, {"div_s", -1, 2, 0},
		{"rem_s", 7, 2, 1}, {"rem_s", -7, 2, -1}, {"rem_s", 7, -2, 1}, {"rem_s", -7, -2, -1}, {"rem_s", 5, -1, 0},
		{"div_u", 7, 2, 3}, {"div_u", 7, -2, 0}, {"div_u", -1, -1, 1}, {"div_u", -2, -1, 0}, {"div_u", -1, 1, -1},
		{"rem_u", 7, 2, 1}, {"rem_u", 7, -2, 7}, {"rem_u", -1, -2, 1}, {"rem_u", -2, -1, -2}, {"rem_u", -1, 2, 1},
		{"and", 12, 10, 8}, {"or", 12, 10, 14}, {"xor", 12, 10, 6}, {"and", -1, 7, 7}, {"or", -1, 7, -1}, {"xor", -1, 7, -8},
		{"shl", 3, 4, 48}, {"shl", -3, 1, -6}, {"shr_s", 48, 4, 3}, {"shr_s", -7, 1, -4}, {"shr_u", 48, 4, 3}, {"rotl", 3, 4, 48}, {"rotr", 48, 4, 3},
		{"shl", 5, 64, 5}, {"shr_s", -5, 64, -5}, {"shr_u", -5, -64, -5}, {"rotl", -5, 64, -5}, {"rotr", -5, -64, -5},
		{"shl", 5, 65, 10}, {"shr_s", -6, 65, -3}, {"rotl", -1, 13, -1}, {"rotr", -2, -1, -3}, {"rotl", 1, -63, 2},
	} {
		for _, kind := range []int{api.I32, api.I64} {
			op := opcode(t, c.name, kind)
			want := val(operations()[op].result, c.want)
			if got, trap := ints.Two(op, val(kind, c.a), val(kind, c.b)); got != want || trap != api.TrapNone {
				t.Errorf("P4.2: %s of kind %d of %d, %d: got %v, %d, want %v", c.name, kind, c.a, c.b, got, trap, want)
			}
		}
	}
}

// TestTwoGoesRound holds Two against results that differ from kind to kind: at the edges of both, and over them.
func TestTwoGoesRound(t *testing.T) {
	const least, most = math.MinInt32, math.MaxInt32
	const least64, most64 = math.MinInt64, math.MaxInt64
	for _, c := range []struct {
		name       string
		kind       int
		a, b, want int64
	}{
		{"add", api.I32, most, 1, least}, {"add", api.I32, least, -1, most}, {"add", api.I32, least, least, 0},
		{"add", api.I64, most64, 1, least64}, {"add", api.I64, least64, -1, most64}, {"add", api.I64, most, 1, 1 << 31},
		{"sub", api.I32, least, 1, most}, {"sub", api.I32, 0, least, least}, {"sub", api.I64, least64, 1, most64}, {"sub", api.I64, 0, least64, least64},
		{"mul", api.I32, 65536, 65536, 0}, {"mul", api.I32, 65537, 65537, 131073}, {"mul", api.I32, least, -1, least}, {"mul", api.I32, most, most, 1},
		{"mul", api.I64, 65536, 65536, 1 << 32}, {"mul", api.I64, 1 << 32, 1 << 32, 0}, {"mul", api.I64, least64, -1, least64}, {"mul", api.I64, most64, most64, 1},
		{"div_s", api.I32, least, 1, least}, {"div_s", api.I32, least + 1, -1, most}, {"div_s", api.I32, least, 2, -1 << 30},
		{"div_s", api.I64, least, -1, 1 << 31}, {"div_s", api.I64, least64, 1, least64}, {"div_s", api.I64, least64 + 1, -1, most64},
		{"div_u", api.I32, least, -1, 0}, {"div_u", api.I32, -1, 2, most}, {"div_u", api.I64, -1, 2, most64}, {"div_u", api.I64, least64, -1, 0},
		{"rem_s", api.I32, least, -1, 0}, {"rem_s", api.I64, least64, -1, 0}, {"rem_s", api.I64, least, -1, 0},
		{"rem_u", api.I32, least, -1, least}, {"rem_u", api.I64, least64, -1, least64}, {"rem_u", api.I32, -1, 10, 5}, {"rem_u", api.I64, -1, 10, 5},
		{"lt_u", api.I32, most, least, 1}, {"lt_s", api.I32, most, least, 0}, {"lt_u", api.I64, most64, least64, 1}, {"gt_u", api.I64, -1, 1 << 32, 1},
		{"shl", api.I32, 1, 31, least}, {"shl", api.I32, 1, 32, 1}, {"shl", api.I32, 1, 33, 2}, {"shl", api.I32, 1, 63, least}, {"shl", api.I32, 1, -1, least},
		{"shl", api.I64, 1, 31, 1 << 31}, {"shl", api.I64, 1, 32, 1 << 32}, {"shl", api.I64, 1, 63, least64}, {"shl", api.I64, 1, 64, 1}, {"shl", api.I64, 1, -1, least64},
		{"shr_s", api.I32, least, 31, -1}, {"shr_s", api.I32, least, 32, least}, {"shr_s", api.I32, least, 33, -1 << 30}, {"shr_s", api.I64, least64, 63, -1},
		{"shr_u", api.I32, least, 31, 1}, {"shr_u", api.I32, -1, 1, most}, {"shr_u", api.I32, -1, 32, -1}, {"shr_u", api.I32, -1, -1, 1},
		{"shr_u", api.I64, least64, 63, 1}, {"shr_u", api.I64, -1, 1, most64}, {"shr_u", api.I64, -1, 32, 1<<32 - 1}, {"shr_u", api.I64, -1, 64, -1},
		{"rotl", api.I32, least, 1, 1}, {"rotl", api.I32, 1, 31, least}, {"rotl", api.I32, 1, 32, 1}, {"rotl", api.I32, 0x12345678, 8, 0x34567812},
		{"rotl", api.I64, least64, 1, 1}, {"rotl", api.I64, 1, 32, 1 << 32}, {"rotl", api.I64, 0x0123456789abcdef, 4, 0x123456789abcdef0},
		{"rotr", api.I32, 1, 1, least}, {"rotr", api.I32, 1, -31, least}, {"rotr", api.I32, 0x12345678, 8, 0x78123456}, {"rotr", api.I32, 5, 32, 5},
		{"rotr", api.I64, 1, 1, least64}, {"rotr", api.I64, 1 << 32, 32, 1}, {"rotr", api.I64, 5, 64, 5}, {"rotr", api.I64, 1, -63, least64},
	} {
		op := opcode(t, c.name, c.kind)
		want := val(operations()[op].result, c.want)
		if got, trap := ints.Two(op, val(c.kind, c.a), val(c.kind, c.b)); got != want || trap != api.TrapNone {
			t.Errorf("P4.2: %s of kind %d of %d, %d: got %v, %d, want %v", c.name, c.kind, c.a, c.b, got, trap, want)
		}
	}
}

func TestTraps(t *testing.T) {
	for kind, least := range map[int]int64{api.I32: math.MinInt32, api.I64: math.MinInt64} {
		for _, name := range []string{"div_s", "div_u", "rem_s", "rem_u"} {
			op := opcode(t, name, kind)
			for _, n := range []int64{0, 1, -1, 7, least, least + 1, -1 - least} {
				if got, trap := ints.Two(op, val(kind, n), val(kind, 0)); got != (api.Val{}) || trap != api.TrapZero {
					t.Errorf("P4.2: %s of kind %d of %d, 0: got %v, %d", name, kind, n, got, trap)
				}
			}
		}
		op := opcode(t, "div_s", kind)
		if got, trap := ints.Two(op, val(kind, least), val(kind, -1)); got != (api.Val{}) || trap != api.TrapOver {
			t.Errorf("P4.2: div_s of kind %d of %d, -1: got %v, %d", kind, least, got, trap)
		}
	}
}

// TestTwo does every instruction on all pairs of the edges.
func TestTwo(t *testing.T) {
	for op, x := range operations() {
		if len(x.kinds) != 2 {
			continue
		}
		for _, a := range values(x.kinds[0]) {
			for _, b := range values(x.kinds[1]) {
				want, fault := both(x.name, a, b)
				got, trap := ints.Two(op, a, b)
				if got != want || trap != fault {
					t.Fatalf("P4.2: %s, %#x of %v, %v: got %v, %d; want %v, %d", x.name, op, a, b, got, trap, want, fault)
				}
			}
		}
	}
}

// TestShiftsByAll goes from two whole turns to the left to two to the right.
func TestShiftsByAll(t *testing.T) {
	for _, name := range []string{"shl", "shr_s", "shr_u", "rotl", "rotr"} {
		for _, kind := range []int{api.I32, api.I64} {
			op := opcode(t, name, kind)
			for by := int64(-130); by <= 130; by++ {
				for _, n := range []int64{1, -2, 0x12345678, math.MinInt32, math.MinInt32 + 5, math.MaxInt32} {
					want, _ := both(name, val(kind, n), val(kind, by))
					if got, trap := ints.Two(op, val(kind, n), val(kind, by)); got != want || trap != api.TrapNone {
						t.Errorf("P4.2: %s of kind %d of %d, %d: got %v, %d, want %v", name, kind, n, by, got, trap, want)
					}
				}
			}
		}
	}
}

func TestTwoWrong(t *testing.T) {
	check := func(op int, a, b api.Val) {
		if got, trap := ints.Two(op, a, b); got != (api.Val{}) || trap != -1 {
			t.Errorf("P4.2: Two(%#x, %v, %v): got %v, %d", op, a, b, got, trap)
		}
	}
	all := operations()
	for _, op := range numbers() {
		for _, n := range []int64{0, 1, -1, math.MinInt32} {
			small, great := val(api.I32, n), val(api.I64, n)
			check(op, small, great)
			check(op, great, small)
			for _, v := range wrong() {
				check(op, v, v)
				check(op, v, small)
				check(op, small, v)
				check(op, v, great)
				check(op, great, v)
			}
			for _, v := range []api.Val{small, great} {
				// No instruction, one of a single operand, or one of the other kind.
				if !slices.Equal(all[op].kinds, []int{v.Kind, v.Kind}) {
					check(op, v, v)
				}
			}
		}
	}
}

// TestResultsMay holds that each result is a value of the kind that Kinds tells.
func TestResultsMay(t *testing.T) {
	for op := range operations() {
		kinds, result, _ := ints.Kinds(op)
		for _, a := range values(kinds[0]) {
			if len(kinds) == 1 {
				if got, ok := ints.One(op, a); !ok || got.Kind != result || !ints.May(got) {
					t.Errorf("P4.1: One(%#x, %v): got %v, %v", op, a, got, ok)
				}
				continue
			}
			for _, b := range values(kinds[1]) {
				if got, trap := ints.Two(op, a, b); trap == api.TrapNone && (got.Kind != result || !ints.May(got)) {
					t.Errorf("P4.1: Two(%#x, %v, %v): got %v", op, a, b, got)
				}
			}
		}
	}
}

// TestSameAgain holds P0.5: the same arguments have the same answer, whatever was asked between.
func TestSameAgain(t *testing.T) {
	for op := range operations() {
		for _, kind := range []int{api.I32, api.I64} {
			a, b := val(kind, -77), val(kind, 13)
			one, ok := ints.One(op, a)
			two, trap := ints.Two(op, a, b)
			ints.Two(op, b, val(kind, 0))
			ints.One(op, val(kind, 1<<40))
			ints.Wrap(kind, -1)
			if again, same := ints.One(op, a); again != one || same != ok {
				t.Errorf("P0.5: One(%#x, %v): first %v, then %v", op, a, one, again)
			}
			if again, same := ints.Two(op, a, b); again != two || same != trap {
				t.Errorf("P0.5: Two(%#x, %v, %v): first %v, then %v", op, a, b, two, again)
			}
		}
	}
}
