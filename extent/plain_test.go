package extent_test

import (
	"math"
	"slices"
	"testing"

	"diapause/extent"
)

// plain is a Room as the chapter tells it: each sector that belongs to it, by its number, and whether it is free.
type plain struct {
	at, n int
	free  map[int]bool
}

func newPlain(at, n int) *plain {
	p := &plain{free: map[int]bool{}}
	if at < 0 || n < 0 || n > 2048 {
		return p
	}
	p.at, p.n = at, n
	for k := range n {
		p.free[at+k] = true
	}
	return p
}

// all tells whether s has a sector, and whether all it has belong to the Room and are free, or are not.
func (p *plain) all(s extent.Span, free bool) bool {
	for k := 0; k < s.Len; k++ {
		// Behind the greatest number this sum goes round: a negative one is no sector.
		if is, ok := p.free[s.At+k]; !ok || is != free {
			return false
		}
	}
	return s.Len > 0
}

func (p *plain) set(s extent.Span, free bool) {
	for k := range s.Len {
		p.free[s.At+k] = free
	}
}

// take goes by places: the first at which n sectors are free is where the first free range that has as many begins.
func (p *plain) take(n int) (extent.Span, bool) {
	for k := range p.n {
		if s := (extent.Span{At: p.at + k, Len: n}); p.all(s, true) {
			p.set(s, false)
			return s, true
		}
	}
	return extent.Span{}, false
}

func (p *plain) use(s extent.Span) bool {
	ok := p.all(s, true)
	if ok {
		p.set(s, false)
	}
	return ok
}

func (p *plain) give(s extent.Span) bool {
	ok := p.all(s, false)
	if ok {
		p.set(s, true)
	}
	return ok
}

func (p *plain) count() int {
	n := 0
	for _, free := range p.free {
		if free {
			n++
		}
	}
	return n
}

// spans returns each free range: from a free sector ahead of which there is none to the last one that is free.
func (p *plain) spans() []extent.Span {
	var l []extent.Span
	for k := 0; k < p.n; k++ {
		s := extent.Span{At: p.at + k}
		for k < p.n && p.free[p.at+k] {
			s.Len++
			k++
		}
		if s.Len > 0 {
			l = append(l, s)
		}
	}
	return l
}

func (p *plain) copied() *plain {
	c := newPlain(p.at, p.n)
	for i, free := range p.free {
		c.free[i] = free
	}
	return c
}

// both are a Room and its plain copy: each call goes to both, and both must then be the same in all that can be asked.
type both struct {
	t     *testing.T
	about string
	r     *extent.Room
	p     *plain
}

func newBoth(t *testing.T, at, n int, about string) *both {
	t.Helper()
	d := &both{t, about, extent.New(at, n), newPlain(at, n)}
	if d.r == nil {
		t.Fatalf("P19.1: %s: New(%d, %d): nil", about, at, n)
	}
	d.same("New")
	return d
}

// same holds all that can be asked of the Room against the plain copy.
func (d *both) same(call string) {
	d.t.Helper()
	if got, want := d.r.Free(), d.p.count(); got != want {
		d.t.Errorf("P19.1: %s: behind %s: Free: got %d, want %d", d.about, call, got, want)
	}
	if got, want := d.r.Spans(), d.p.spans(); !slices.Equal(got, want) {
		d.t.Errorf("P19.1: %s: behind %s: Spans: got %v, want %v", d.about, call, got, want)
	}
}

func (d *both) take(n int) (extent.Span, bool) {
	d.t.Helper()
	got, ok := d.r.Take(n)
	want, wantOk := d.p.take(n)
	if got != want || ok != wantOk {
		d.t.Errorf("P19.1: %s: Take(%d): got %v, %t, want %v, %t", d.about, n, got, ok, want, wantOk)
	}
	d.same("Take")
	return want, wantOk
}

func (d *both) use(at, n int) bool {
	d.t.Helper()
	s := extent.Span{At: at, Len: n}
	got, want := d.r.Use(s), d.p.use(s)
	if got != want {
		d.t.Errorf("P19.1: %s: Use(%v): got %t, want %t", d.about, s, got, want)
	}
	d.same("Use")
	return want
}

func (d *both) give(at, n int) bool {
	d.t.Helper()
	s := extent.Span{At: at, Len: n}
	got, want := d.r.Give(s), d.p.give(s)
	if got != want {
		d.t.Errorf("P19.1: %s: Give(%v): got %t, want %t", d.about, s, got, want)
	}
	d.same("Give")
	return want
}

// copied returns a copy of the Room beside one of the plain copy.
func (d *both) copied(about string) *both {
	d.t.Helper()
	c := &both{d.t, about, d.r.Copy(), d.p.copied()}
	if c.r == nil || c.r == d.r {
		d.t.Fatalf("P19.1: %s: Copy: nil, or the Room itself", about)
	}
	c.same("Copy")
	d.same("Copy")
	return c
}

// takes holds what Take must return, as the chapter tells it.
func (d *both) takes(n, at int) {
	d.t.Helper()
	if s, ok := d.take(n); s != (extent.Span{At: at, Len: n}) || !ok {
		d.t.Errorf("P19.1: %s: Take(%d): got %v, %t, want {%d %d}, true", d.about, n, s, ok, at, n)
	}
}

// takesNone holds that Take finds no range of n.
func (d *both) takesNone(n int) {
	d.t.Helper()
	if s, ok := d.take(n); s != (extent.Span{}) || ok {
		d.t.Errorf("P19.1: %s: Take(%d): got %v, %t, want the zero Span, false", d.about, n, s, ok)
	}
}

// refuses holds that neither Use nor Give takes a span.
func (d *both) refuses(at, n int) {
	d.t.Helper()
	if d.use(at, n) || d.give(at, n) {
		d.t.Errorf("P19.1: %s: Use or Give of {%d %d}: true", d.about, at, n)
	}
}

// has holds the free ranges, as the chapter tells them.
func (d *both) has(want ...extent.Span) {
	d.t.Helper()
	n := 0
	for _, s := range want {
		n += s.Len
	}
	if got := d.r.Spans(); !slices.Equal(got, want) {
		d.t.Errorf("P19.1: %s: Spans: got %v, want %v", d.about, got, want)
	}
	if got := d.r.Free(); got != n {
		d.t.Errorf("P19.1: %s: Free: got %d, want %d", d.about, got, n)
	}
}

// span makes a Span without the names of its fields.
func span(at, n int) extent.Span { return extent.Span{At: at, Len: n} }

// strange are numbers that neither begin a span in most Rooms nor tell its length.
func strange() []int {
	return []int{math.MinInt, math.MinInt + 1, math.MinInt + 2048, -1 << 62, -1 << 32, -1<<32 + 1, math.MinInt32, -2049, -2048, -1,
		2049, 4096, math.MaxInt32, 1 << 31, 1 << 32, 1<<32 + 1, 1 << 56, 1<<61 + 1, 1 << 62, math.MaxInt - 2048, math.MaxInt - 1, math.MaxInt}
}

// places are where a Room may begin, also so that its last sector is the greatest number.
func places(n int) []int {
	return []int{0, 1, 2, 10, 63, 64, 2047, 2048, 2049, math.MaxInt32 - 1, math.MaxInt32, 1 << 31, 1 << 32, 1<<32 + 5, 1 << 62,
		math.MaxInt - 4096, math.MaxInt - n, math.MaxInt - max(n, 1) + 1}
}
