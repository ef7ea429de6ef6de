package meter_test

import (
	"math"
	"math/big"
	"slices"
	"testing"

	"diapause/meter"
)

const (
	most    = 1 << 50
	modulus = 1000003
)

// work is a number as the tests count it: in integers alone.
type work struct{ steps, bytes int }

// number writes w as a complex number, without the package's help.
func (w work) number() complex128 {
	return complex(float64(w.steps), float64(w.bytes))
}

// same tells whether got is w, bit by bit: a negative zero is no integer, though == would take it for one.
func same(got complex128, w work) bool {
	want := w.number()
	return math.Float64bits(real(got)) == math.Float64bits(real(want)) &&
		math.Float64bits(imag(got)) == math.Float64bits(imag(want))
}

// parts are integers of the promised range, ordinary ones and edges.
func parts() []int {
	l := []int{0, 3, -4, 12345, -98765, 1<<50 - 3, 0x2aaaaaaaaaaaa, -0x1555555555555}
	for _, x := range []int{1, 2, 255, 256, 1 << 31, 1 << 32, most - 1, most} {
		l = append(l, x, -x)
	}
	return l
}

// works are all pairs of parts.
func works() []work {
	var l []work
	for _, steps := range parts() {
		for _, bytes := range parts() {
			l = append(l, work{steps, bytes})
		}
	}
	return l
}

func numbers(ws []work) []complex128 {
	var l []complex128
	for _, w := range ws {
		l = append(l, w.number())
	}
	return l
}

func TestOf(t *testing.T) {
	for _, w := range works() {
		if got := meter.Of(w.steps, w.bytes); !same(got, w) {
			t.Errorf("P3.1: Of(%d, %d): got %v", w.steps, w.bytes, got)
		}
	}
}

func TestStepsAndBytes(t *testing.T) {
	for _, w := range works() {
		if got := meter.Steps(w.number()); got != w.steps {
			t.Errorf("P3.1: Steps of %v: got %d, want %d", w, got, w.steps)
		}
		if got := meter.Bytes(w.number()); got != w.bytes {
			t.Errorf("P3.1: Bytes of %v: got %d, want %d", w, got, w.bytes)
		}
	}
	for _, c := range []complex128{complex(math.Copysign(0, -1), 7), complex(7, math.Copysign(0, -1))} {
		if got := meter.Steps(c) + meter.Bytes(c); got != 7 {
			t.Errorf("P3.1: Steps and Bytes of %v: got %d in all", c, got)
		}
	}
}

func TestAdd(t *testing.T) {
	if got := meter.Add(); !same(got, work{}) {
		t.Errorf("P3.1: Add without arguments: got %v", got)
	}
	for _, a := range works() {
		if got := meter.Add(a.number()); !same(got, a) {
			t.Errorf("P3.1: Add of %v alone: got %v", a, got)
		}
		opposite := work{-a.steps, -a.bytes}
		if got := meter.Add(a.number(), opposite.number()); !same(got, work{}) {
			t.Errorf("P3.1: Add of %v and its opposite: got %v", a, got)
		}
		for _, b := range works() {
			want := work{a.steps + b.steps, a.bytes + b.bytes}
			if got := meter.Add(a.number(), b.number()); !same(got, want) {
				t.Errorf("P3.1: Add of %v and %v: got %v", a, b, got)
			}
		}
	}
}

func TestAddOfSeveral(t *testing.T) {
	for _, c := range []struct {
		ws   []work
		want work
	}{
		{[]work{{3, -4}, {1, 1}, {-10, 9}}, work{-6, 6}},
		{[]work{{}, {}, {}}, work{}},
		{[]work{{most, -most}, {-most, most}, {5, 6}}, work{5, 6}},
		{[]work{{most - 1, 1 - most}, {1, -1}}, work{most, -most}},
		{[]work{{most, 1}, {1, most}, {-most, -most}}, work{1, 1}},
	} {
		cs := numbers(c.ws)
		if got := meter.Add(cs...); !same(got, c.want) {
			t.Errorf("P3.1: Add of %v: got %v, want %v", c.ws, got, c.want)
		}
		slices.Reverse(cs)
		if got := meter.Add(cs...); !same(got, c.want) {
			t.Errorf("P3.1: Add of %v from the last: got %v, want %v", c.ws, got, c.want)
		}
	}
}

// TestAddOfMany goes to sums that a float can't hold, and back: what comes of it is one of the promised range again.
func TestAddOfMany(t *testing.T) {
	for _, n := range []int{7, 8, 9, 63, 64, 1000, 100000} {
		for _, far := range []int{most, most - 1, most/3 + 1} {
			var cs []complex128
			for range n {
				cs = append(cs, work{far, -far}.number(), work{1, 2}.number())
			}
			for range n {
				cs = append(cs, work{-far, far}.number(), work{-3, -1}.number())
			}
			if got, want := meter.Add(cs...), (work{-2 * n, n}); !same(got, want) {
				t.Errorf("P3.1: Add of %d numbers up to %d: got %v, want %v", len(cs), far, got, want)
			}
		}
	}
}

// power is the slow way: so many turns by one, to the left or to the right.
func power(w work, k int) work {
	for range k {
		w = work{-w.bytes, w.steps}
	}
	for range -k {
		w = work{w.bytes, -w.steps}
	}
	return w
}

func TestTurn(t *testing.T) {
	for _, c := range []struct {
		k    int
		want work
	}{
		{0, work{3, -4}}, {1, work{4, 3}}, {2, work{-3, 4}}, {3, work{-4, -3}}, {4, work{3, -4}}, {5, work{4, 3}},
		{-1, work{-4, -3}}, {-2, work{-3, 4}}, {-3, work{4, 3}}, {-4, work{3, -4}}, {-5, work{-4, -3}},
	} {
		if got := meter.Turn(3-4i, c.k); !same(got, c.want) {
			t.Errorf("P3.1: Turn(3-4i, %d): got %v, want %v", c.k, got, c.want)
		}
	}
	for _, w := range works() {
		for k := -13; k <= 13; k++ {
			if got, want := meter.Turn(w.number(), k), power(w, k); !same(got, want) {
				t.Errorf("P3.1: Turn(%v, %d): got %v, want %v", w, k, got, want)
			}
		}
	}
}

// TestTurnVeryFar turns by numbers up to the least and the greatest; the remainder is one of integers without bounds.
func TestTurnVeryFar(t *testing.T) {
	var ks []int
	for d := range 9 {
		for _, k := range []int{math.MinInt, -1 << 62, math.MinInt32 - 4, -1000, 1000, 1 << 31, 1 << 53, 1 << 62} {
			ks = append(ks, k+d)
		}
		ks = append(ks, math.MaxInt-d)
	}
	for _, k := range ks {
		left := new(big.Int).Mod(big.NewInt(int64(k)), big.NewInt(4)).Int64()
		for _, w := range works() {
			if got, want := meter.Turn(w.number(), k), power(w, int(left)); !same(got, want) {
				t.Errorf("P3.1: Turn(%v, %d): got %v, want %v", w, k, got, want)
			}
		}
	}
}

func TestCost(t *testing.T) {
	moved := map[int]int{0x28: 4, 0x36: 4, 0x29: 8, 0x37: 8, 0x2c: 1, 0x2d: 1, 0x3a: 1}
	ops := []int{math.MinInt, math.MinInt32, -0x28, math.MaxInt32, math.MaxInt, 1 << 32}
	for op := -600; op <= 600; op++ {
		ops = append(ops, op)
	}
	for op := range moved {
		// Numbers that are only alike in their low bits have no cost of their own.
		ops = append(ops, op+1<<8, op+1<<16, op+1<<32, op-1<<32, op+math.MinInt)
	}
	for _, op := range ops {
		if got, want := meter.Cost(op), (work{1, moved[op]}); !same(got, want) {
			t.Errorf("P3.1: Cost(%#x): got %v, want %v", op, got, want)
		}
	}
}

// mark is the slow way: of integers without bounds.
func mark(f work, fn int, n int64) work {
	k := rest(big.NewInt(n))
	steps := big.NewInt(int64(f.steps - 2*f.bytes + fn + 1))
	bytes := new(big.Int).Add(big.NewInt(int64(2*f.steps+f.bytes)), k)
	return work{int(rest(steps).Int64()), int(rest(bytes).Int64())}
}

// rest is the non-negative remainder of n, as Mod of big numbers gives it.
func rest(n *big.Int) *big.Int {
	return new(big.Int).Mod(n, big.NewInt(modulus))
}

// answers are the numbers that are marked: ordinary ones, and edges of the remainder and of int64.
func answers() []int64 {
	l := []int64{0, 7, -7, 500001, 500002, math.MaxInt32, math.MinInt32, 1 << 53, 1<<53 + 1, -1<<53 - 1}
	for _, times := range []int64{1, 2, 3, 1000003, 1 << 33, math.MaxInt64 / modulus} {
		for d := int64(-2); d <= 2; d++ {
			l = append(l, times*modulus+d, -times*modulus+d)
		}
	}
	for d := range int64(3) {
		l = append(l, d, -d, math.MaxInt64-d, math.MinInt64+d)
	}
	return l
}

func TestMark(t *testing.T) {
	for _, c := range []struct {
		f    work
		fn   int
		n    int64
		want work
	}{
		{work{0, 0}, 0, 0, work{1, 0}},
		{work{1, 0}, 2, -1, work{4, 1}},
		{work{0, 0}, 7, -1000004, work{8, 1000002}},
		{work{0, 5}, 0, 0, work{999994, 5}},
		{work{1000002, 1000002}, 1000, 7, work{1002, 4}},
		{work{1000002, 0}, 0, 0, work{0, 1000001}},
		{work{0, 1000002}, 0, 1, work{3, 0}},
		{work{0, 0}, 1000, 1000003, work{1001, 0}},
		{work{0, 0}, 0, 1000002, work{1, 1000002}},
		{work{0, 0}, 0, -1000003, work{1, 0}},
	} {
		if got := meter.Mark(c.f.number(), c.fn, c.n); !same(got, c.want) {
			t.Errorf("P3.1: Mark(%v, %d, %d): got %v, want %v", c.f, c.fn, c.n, got, c.want)
		}
	}
}

func TestMarkAtEdges(t *testing.T) {
	ends := []int{0, 1, 2, 3, 5, 499999, 500001, 500002, 999999, 1000001, 1000002}
	for _, steps := range ends {
		for _, bytes := range ends {
			f := work{steps, bytes}
			for _, fn := range []int{0, 1, 2, 15, 999, 1000} {
				for _, n := range answers() {
					if got, want := meter.Mark(f.number(), fn, n), mark(f, fn, n); !same(got, want) {
						t.Errorf("P3.1: Mark(%v, %d, %d): got %v, want %v", f, fn, n, got, want)
					}
				}
			}
		}
	}
}

// TestMarkAfterMark goes on from mark to mark: each is one from which to go on.
func TestMarkAfterMark(t *testing.T) {
	got, want := complex128(0), work{}
	for k := range 10000 {
		fn, n := k*7%1001, int64(k)*-0x123456789abcd
		got, want = meter.Mark(got, fn, n), mark(want, fn, n)
		if !same(got, want) {
			t.Fatalf("P3.1: mark %d: got %v, want %v", k, got, want)
		}
	}
}

// TestWrongInputs holds P0.1 and P0.5: what no promise covers ends, too, and in the same way each time.
func TestWrongInputs(t *testing.T) {
	ints := []int{0, -1, math.MinInt, math.MaxInt, most + 1}
	floats := []float64{0, 0.5, -0.5, 1e300, -1e300, math.Inf(1), math.Inf(-1), math.NaN(), math.SmallestNonzeroFloat64}
	for _, n := range ints {
		for _, m := range ints {
			if got, again := meter.Of(n, m), meter.Of(n, m); got != again {
				t.Errorf("P0.5: Of(%d, %d): first %v, then %v", n, m, got, again)
			}
		}
	}
	for _, re := range floats {
		for _, im := range floats {
			c := complex(re, im)
			if meter.Steps(c) != meter.Steps(c) || meter.Bytes(c) != meter.Bytes(c) {
				t.Errorf("P0.5: Steps or Bytes of %v change", c)
			}
			if got, again := meter.Add(c, c), meter.Add(c, c); !alike(got, again) {
				t.Errorf("P0.5: Add of %v twice: first %v, then %v", c, got, again)
			}
			for _, n := range ints {
				if got, again := meter.Turn(c, n), meter.Turn(c, n); !alike(got, again) {
					t.Errorf("P0.5: Turn(%v, %d): first %v, then %v", c, n, got, again)
				}
				if got, again := meter.Mark(c, n, int64(n)), meter.Mark(c, n, int64(n)); !alike(got, again) {
					t.Errorf("P0.5: Mark(%v, %d, %d): first %v, then %v", c, n, n, got, again)
				}
			}
		}
	}
}

// alike tells whether a and b are equal, or have no number in the same places.
func alike(a, b complex128) bool {
	part := func(x, y float64) bool { return x == y || x != x && y != y }
	return part(real(a), real(b)) && part(imag(a), imag(b))
}

// TestAddReadsOnly holds P0.3: neither the numbers nor what is spare behind them change, nor does the latter count.
func TestAddReadsOnly(t *testing.T) {
	for n := range 20 {
		whole := numbers(works()[:40])
		before := slices.Clone(whole)
		cs := whole[10 : 10+n]
		got := meter.Add(cs...)
		if !slices.Equal(whole, before) {
			t.Errorf("P0.3: Add changed its %d arguments, or what lies about them", n)
		}
		if again := meter.Add(slices.Clone(cs)...); again != got {
			t.Errorf("P0.3: Add of %d: with spare numbers %v, without %v", n, got, again)
		}
	}
}

// TestSameAgain holds P0.5, and that no argument is kept (P0.3): calls between, and changes of arguments, do nothing.
func TestSameAgain(t *testing.T) {
	cs := numbers(works()[:30])
	sum, turned, marked := meter.Add(cs...), meter.Turn(3-4i, 7), meter.Mark(5+6i, 7, 8)
	for i := range cs {
		cs[i] = -9
	}
	meter.Add(cs...)
	meter.Add(1i)
	meter.Turn(1, 1)
	meter.Mark(1, 1, 1)
	if again := meter.Add(numbers(works()[:30])...); again != sum {
		t.Errorf("P0.5: Add: first %v, then %v", sum, again)
	}
	if again := meter.Turn(3-4i, 7); again != turned {
		t.Errorf("P0.5: Turn: first %v, then %v", turned, again)
	}
	if again := meter.Mark(5+6i, 7, 8); again != marked {
		t.Errorf("P0.5: Mark: first %v, then %v", marked, again)
	}
}

// TestNoArguments holds P0.4: no list and an empty one are the same to Add.
func TestNoArguments(t *testing.T) {
	for _, cs := range [][]complex128{nil, {}, make([]complex128, 0, 8)} {
		if got := meter.Add(cs...); !same(got, work{}) {
			t.Errorf("P0.4: Add of no numbers: got %v", got)
		}
	}
}
