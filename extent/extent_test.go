package extent_test

import (
	"math"
	"strconv"
	"testing"

	"diapause/extent"
)

// TestExamples holds the chapter's two examples.
func TestExamples(t *testing.T) {
	d := newBoth(t, 10, 20, "the first example")
	d.takes(5, 10)
	d.takes(3, 15)
	d.takesNone(13)
	d.takes(12, 18)
	d.has()
	d.about = "the second example"
	for _, s := range []extent.Span{span(15, 3), span(20, 4), span(12, 1)} {
		if !d.give(s.At, s.Len) {
			t.Errorf("P19.1: Give(%v) of what was taken: false", s)
		}
	}
	d.has(span(12, 1), span(15, 3), span(20, 4))
	d.takes(2, 15)
	d.has(span(12, 1), span(17, 1), span(20, 4))
}

// TestNew holds that the sectors of a new Room are free, and that there are no others.
func TestNew(t *testing.T) {
	for _, n := range []int{1, 2, 3, 63, 64, 65, 2047, 2048} {
		for _, at := range places(n) {
			d := newBoth(t, at, n, "New of "+strconv.Itoa(n)+" at "+strconv.Itoa(at))
			d.has(span(at, n))
			if d.give(at, n) || d.give(at, 1) || d.give(at+n-1, 1) {
				t.Errorf("P19.1: %s: Give of what is free: true", d.about)
			}
			d.refuses(at-1, 1)
			d.refuses(at-1, n+1)
			d.refuses(at, n+1)
			if at <= math.MaxInt-n {
				d.refuses(at+n, 1)
			}
			d.takesNone(n + 1)
			d.takes(n, at)
			d.has()
			d.takesNone(1)
		}
	}
}

// TestNewOfNothing holds that New of no sectors, and of arguments that it does not take, has none, which cannot be given to it either.
func TestNewOfNothing(t *testing.T) {
	none := map[[2]int]bool{}
	for _, at := range append(strange(), 0, 1, 5) {
		none[[2]int{at, 0}] = true
		for _, n := range append(strange(), 0, 1, 5, 2048) {
			if at < 0 || n < 0 || n > 2048 {
				none[[2]int{at, n}] = true
			}
		}
	}
	for k := range none {
		at, n := k[0], k[1]
		d := newBoth(t, at, n, "New of "+strconv.Itoa(n)+" at "+strconv.Itoa(at))
		d.has()
		for _, from := range []int{0, 1, at, 4, 2047, math.MinInt, math.MaxInt} {
			for _, size := range []int{1, 5, 2048, math.MaxInt, 0, -1} {
				d.refuses(from, size)
			}
		}
		for _, size := range []int{1, 2, 2048, n, 0, -1, math.MaxInt} {
			d.takesNone(size)
		}
		d.copied("a copy of " + d.about).has()
	}
}

// TestNewAlone holds that each New makes a Room of its own.
func TestNewAlone(t *testing.T) {
	a := newBoth(t, 3, 9, "one of two")
	b := newBoth(t, 3, 9, "the other one")
	a.takes(4, 3)
	b.has(span(3, 9))
	b.use(8, 2)
	a.has(span(7, 5))
}

// TestTakeOfNoLength holds that nothing is taken if less than one sector is asked for, or far too many.
func TestTakeOfNoLength(t *testing.T) {
	for _, full := range []bool{false, true} {
		d := newBoth(t, 0, 2048, "a great room")
		if full {
			d.takes(2048, 0)
		}
		for _, n := range append(strange(), 0) {
			d.takesNone(n)
		}
	}
}

// TestTakeOfMoreThanOneRangeHas holds that one range must have all the sectors that are taken, and takes one range after the other, until there is none.
func TestTakeOfMoreThanOneRangeHas(t *testing.T) {
	d := newBoth(t, 4, 29, "ranges of five")
	for k := range 4 {
		d.use(9+6*k, 1)
	}
	d.has(span(4, 5), span(10, 5), span(16, 5), span(22, 5), span(28, 5))
	d.takesNone(25)
	d.takesNone(6)
	d.takes(5, 4)
	d.takes(4, 10)
	d.takes(5, 16)
	d.takes(1, 14)
	d.takes(2, 22)
	d.takes(3, 24)
	d.takesNone(6)
	d.takes(4, 28)
	d.takesNone(2)
	d.takes(1, 32)
	d.takesNone(1)
	d.has()
}

// TestTakeFirst holds that the first range that has as many is taken, not one that fits better, and not the greatest.
func TestTakeFirst(t *testing.T) {
	ranges := []extent.Span{span(1, 1), span(3, 4), span(8, 2), span(11, 6), span(18, 4), span(23, 3), span(27, 6), span(34, 1)}
	first := []int{1, 3, 3, 3, 11, 11}
	for n := 1; n <= 6; n++ {
		d := newBoth(t, 0, 36, "ranges of many lengths")
		d.take(36)
		for _, s := range ranges {
			d.give(s.At, s.Len)
		}
		d.has(ranges...)
		d.takesNone(7)
		d.takes(n, first[n-1])
		for _, s := range []extent.Span{span(3, 4), span(11, 6)} {
			d.use(s.At, s.Len)
		}
		for ok := true; ok; {
			_, ok = d.take(n)
		}
	}
}

// TestOneByOne takes all sectors of a Room one by one, and gives them back from either end.
func TestOneByOne(t *testing.T) {
	for _, n := range []int{1, 2, 9, 200} {
		d := newBoth(t, 100, n, "one by one")
		for k := range n {
			d.takes(1, 100+k)
		}
		d.takesNone(1)
		for k := range n {
			d.give(100+n-1-k, 1)
			d.has(span(100+n-1-k, k+1))
		}
		for k := range n {
			d.use(100+n-1-k, 1)
		}
		d.has()
		for k := range n {
			d.give(100+k, 1)
			d.has(span(100, k+1))
		}
		d.takes(n, 100)
	}
}

// TestEachSpanOfEachRoom holds Take, Use and Give of all there can be about a small Room, whichever of its sectors are free.
func TestEachSpanOfEachRoom(t *testing.T) {
	const at, size = 3, 6
	for set := range 1 << size {
		d := newBoth(t, at, size, "free are the bits of "+strconv.Itoa(set))
		for k := range size {
			if set>>k&1 == 0 {
				d.use(at+k, 1)
			}
		}
		for n := -1; n <= size+2; n++ {
			d.copied(d.about).take(n)
			for from := at - 3; from <= at+size+2; from++ {
				d.copied(d.about).use(from, n)
				d.copied(d.about).give(from, n)
			}
		}
	}
}

// TestUseAndGive holds both of spans that are free, not free, and both, with the ends of the Room.
func TestUseAndGive(t *testing.T) {
	d := newBoth(t, 10, 20, "20 sectors from 10 on")
	good := func(ok bool, call string) {
		t.Helper()
		if !ok {
			t.Errorf("P19.1: %s: false", call)
		}
	}
	good(d.use(14, 6), "Use in the midst")
	d.has(span(10, 4), span(20, 10))
	for _, s := range []extent.Span{span(14, 6), span(14, 1), span(19, 1), span(13, 2), span(19, 2), span(10, 20), span(13, 8), span(10, 5), span(19, 11)} {
		if d.use(s.At, s.Len) {
			t.Errorf("P19.1: Use(%v) of what is not free: true", s)
		}
	}
	for _, s := range []extent.Span{span(10, 4), span(13, 1), span(20, 1), span(13, 2), span(19, 2), span(10, 20), span(13, 8), span(10, 5), span(19, 11)} {
		if d.give(s.At, s.Len) {
			t.Errorf("P19.1: Give(%v) of what is free: true", s)
		}
	}
	good(d.use(10, 1), "Use at the first end")
	good(d.use(29, 1), "Use at the last end")
	good(d.use(28, 1), "Use next to what is not free")
	d.has(span(11, 3), span(20, 8))
	good(d.give(16, 2), "Give of a part of what was used")
	d.has(span(11, 3), span(16, 2), span(20, 8))
	good(d.give(28, 2), "Give of what was used in two")
	good(d.give(10, 1), "Give at the first end")
	good(d.use(10, 4), "Use of a whole range")
	good(d.use(20, 10), "Use of a whole range")
	d.has(span(16, 2))
	good(d.use(16, 2), "Use of the last range")
	good(d.give(10, 20), "Give of all")
	good(d.use(10, 20), "Use of all")
	d.has()
}

// TestBeyond holds that no sector beside the Room's is used or given, as long as its own are free and as long as they are not.
func TestBeyond(t *testing.T) {
	for _, n := range []int{1, 2, 20, 2048} {
		for _, at := range places(n) {
			d := newBoth(t, at, n, strconv.Itoa(n)+" sectors from "+strconv.Itoa(at)+" on")
			for range 2 {
				d.refuses(at-1, 1)
				d.refuses(at-1, 2)
				d.refuses(at-1, n)
				d.refuses(at-1, n+1)
				d.refuses(at-1, n+2)
				d.refuses(at, n+1)
				d.refuses(at+n-1, 2)
				d.refuses(at+n/2, n+1)
				if at <= math.MaxInt-n {
					d.refuses(at+n, 1)
					d.refuses(at+n, n)
				}
				if n > 1 {
					d.refuses(at+1, n)
				}
				d.use(at, n)
			}
		}
	}
}

// TestStrange holds Use and Give of the greatest and the least numbers, and of others whose sums go round.
func TestStrange(t *testing.T) {
	for _, at := range []int{0, 1, 10, 1 << 32, math.MaxInt - 19} {
		d := newBoth(t, at, 20, "strange numbers, from "+strconv.Itoa(at)+" on")
		for range 2 {
			for _, n := range append(strange(), 0) {
				for _, a := range append(strange(), at, at+5, at+19) {
					d.refuses(a, n)
				}
			}
			for _, a := range strange() {
				if a < at || a > at+19 {
					// These end within the Room, some of them behind the greatest number.
					d.refuses(a, at-a)
					d.refuses(a, at-a+1)
					d.refuses(a, at-a+20)
				}
			}
			for _, a := range []int{math.MinInt, -1, at - 1, at - 20, at - 21} {
				d.refuses(a, 1)
				d.refuses(a, 20)
			}
			d.use(at, 20)
		}
		d.has()
	}
}

// TestBehindTheGreatest holds a Room whose last sectors have numbers that no int is: they are free, and no Span begins there.
func TestBehindTheGreatest(t *testing.T) {
	for _, n := range []int{2, 5, 2048} {
		r := extent.New(math.MaxInt, n)
		all := span(math.MaxInt, n)
		if l := r.Spans(); r.Free() != n || len(l) != 1 || l[0] != all {
			t.Errorf("P19.1: New of %d at the greatest number: %d, %v", n, r.Free(), l)
		}
		if !r.Use(all) || r.Free() != 0 || r.Use(all) || !r.Give(all) || r.Give(all) || r.Free() != n {
			t.Errorf("P19.1: Use and Give of all %d at the greatest number", n)
		}
		if s, ok := r.Take(1); s != span(math.MaxInt, 1) || !ok || r.Free() != n-1 {
			t.Errorf("P19.1: Take at the greatest number: %v", s)
		}
		if s, ok := r.Take(1); s != (extent.Span{}) || ok || len(r.Spans()) != 0 || r.Free() != n-1 {
			t.Errorf("P19.1: Take behind the greatest number: %v, %v", s, r.Spans())
		}
		if r.Use(span(math.MinInt, 1)) || r.Give(span(math.MinInt, 1)) || !r.Give(span(math.MaxInt, 1)) {
			t.Errorf("P19.1: Use and Give behind the greatest number")
		}
		if l := r.Spans(); len(l) != 1 || l[0] != all {
			t.Errorf("P19.1: Spans at the greatest number: %v", l)
		}
	}
}

// orders returns all orders of the numbers from 0 to n - 1.
func orders(n int) [][]int {
	if n == 0 {
		return [][]int{nil}
	}
	var all [][]int
	for _, l := range orders(n - 1) {
		for k := range n {
			all = append(all, append(append(append([]int{}, l[:k]...), n-1), l[k:]...))
		}
	}
	return all
}

// TestGiveInAnyOrder gives back what was taken, next to what is free on either side, on both and on none.
func TestGiveInAnyOrder(t *testing.T) {
	for _, order := range orders(5) {
		d := newBoth(t, 8, 16, "given in some order")
		var l []extent.Span
		for _, n := range []int{3, 1, 5, 2, 4} {
			s, _ := d.take(n)
			l = append(l, s)
		}
		for _, k := range order {
			if !d.give(l[k].At, l[k].Len) || d.give(l[k].At, l[k].Len) {
				t.Errorf("P19.1: Give in the order %v: not once, or twice", order)
			}
		}
		d.has(span(8, 16))
	}
}

// TestGiveNextTo holds the ranges behind each way in which a span that is given can lie beside what is free.
func TestGiveNextTo(t *testing.T) {
	for sides, want := range [][]extent.Span{
		{span(5, 2)},
		{span(3, 4)},
		{span(5, 5)},
		{span(3, 7)},
	} {
		d := newBoth(t, 0, 12, "Give with the sides "+strconv.Itoa(sides))
		d.takes(12, 0)
		if sides&1 == 1 {
			d.give(3, 2)
		}
		if sides&2 == 2 {
			d.give(7, 3)
		}
		if !d.give(5, 2) {
			t.Errorf("P19.1: %s: false", d.about)
		}
		d.has(want...)
		if d.give(5, 2) || d.give(6, 1) {
			t.Errorf("P19.1: %s: given twice", d.about)
		}
		d.give(11, 1)
		d.give(0, 1)
		d.has(append(append([]extent.Span{span(0, 1)}, want...), span(11, 1))...)
	}
}

// TestManyRanges holds as many free ranges as there can be.
func TestManyRanges(t *testing.T) {
	for odd := range 2 {
		d := newBoth(t, 5, 2048, "each second sector")
		for k := odd; k < 2048; k += 2 {
			d.r.Use(span(5+k, 1))
			d.p.use(span(5+k, 1))
		}
		d.same("Use of each second sector")
		if n := len(d.r.Spans()); n != 1024 || d.r.Free() != 1024 {
			t.Errorf("P19.1: %d ranges of 1,024 sectors", n)
		}
		d.takesNone(2)
		d.takes(1, 6-odd)
		d.give(5, 2-odd)
		d.give(1029+odd, 1)
		d.takes(3, 1028+odd)
	}
}

// TestNil holds all methods on a nil *Room.
func TestNil(t *testing.T) {
	var none *extent.Room
	for _, n := range append(strange(), 0, 1, 20) {
		if s, ok := none.Take(n); s != (extent.Span{}) || ok {
			t.Errorf("P19.1: Take(%d) of a nil *Room: %v, %t", n, s, ok)
		}
		for _, at := range append(strange(), 0, 1, 20) {
			if none.Use(span(at, n)) || none.Give(span(at, n)) {
				t.Errorf("P19.1: Use or Give of {%d %d} on a nil *Room: true", at, n)
			}
		}
	}
	if none.Free() != 0 || len(none.Spans()) != 0 || none.Copy() != nil {
		t.Error("P19.1: Free, Spans or Copy of a nil *Room")
	}
}

// TestZero holds that a Room which New has not made has no sectors.
func TestZero(t *testing.T) {
	d := &both{t, "a Room that New has not made", new(extent.Room), newPlain(0, 0)}
	d.has()
	for _, n := range append(strange(), 0, 1) {
		d.takesNone(n)
		for _, at := range append(strange(), 0, 1) {
			d.refuses(at, n)
		}
	}
	d.copied(d.about).has()
}
