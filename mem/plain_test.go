package mem_test

import (
	"bytes"
	"maps"
	"math"
	"slices"
	"testing"

	"diapause/api"
	"diapause/mem"
)

// plain is a memory as the chapter tells it, byte by byte: each byte that exists, by its address.
type plain struct {
	max     int
	bytes   map[int64]byte
	touched map[int]struct{}
}

func newPlain(l api.Limits) *plain {
	p := &plain{max: l.Max, touched: map[int]struct{}{}, bytes: map[int64]byte{}}
	for at := range 256 * l.Min {
		p.bytes[int64(at)] = 0
	}
	return p
}

func (p *plain) pages() int { return len(p.bytes) / 256 }

func (p *plain) grow(n int64) int64 {
	before := p.pages()
	if n < 0 || n > 1000 || before+int(n) > 16 || p.max != -1 && before+int(n) > p.max {
		return -1
	}
	for range n {
		i := p.pages()
		for k := range 256 {
			p.bytes[int64(256*i+k)] = 0
		}
		p.touched[i] = struct{}{}
	}
	return int64(before)
}

// addresses returns those of n bytes, in ascending order, or false if one of them does not exist.
func (p *plain) addresses(at int64, n int) ([]int64, bool) {
	if n != 1 && n != 4 && n != 8 {
		return nil, false
	}
	var l []int64
	for k := range int64(n) {
		// Behind the greatest address there is none, though this sum goes round: a negative one is none.
		if _, ok := p.bytes[at+k]; !ok {
			return nil, false
		}
		l = append(l, at+k)
	}
	return l, true
}

func (p *plain) load(at int64, n int) (uint64, bool) {
	l, ok := p.addresses(at, n)
	x := uint64(0)
	for _, a := range slices.Backward(l) {
		x = x*256 + uint64(p.bytes[a])
	}
	return x, ok
}

func (p *plain) store(at int64, n int, x uint64) bool {
	l, ok := p.addresses(at, n)
	for _, a := range l {
		p.bytes[a] = byte(x % 256)
		x /= 256
		p.touched[int(a)/256] = struct{}{}
	}
	return ok
}

func (p *plain) page(i int) []byte {
	if i < 0 || i >= p.pages() {
		return nil
	}
	var b []byte
	for k := range 256 {
		b = append(b, p.bytes[int64(256*i+k)])
	}
	return b
}

func (p *plain) setPage(i int, b []byte) bool {
	if i < 0 || i >= p.pages() || len(b) != 256 {
		return false
	}
	for k, x := range b {
		p.bytes[int64(256*i+k)] = x
	}
	p.touched[i] = struct{}{}
	return true
}

func (p *plain) dirty() []int { return slices.Sorted(maps.Keys(p.touched)) }

func (p *plain) clean() { clear(p.touched) }

// both are a memory and its plain copy: each call goes to both, and both must then be the same in all that can be asked.
type both struct {
	t     *testing.T
	about string
	m     *mem.Mem
	p     *plain
}

func newBoth(t *testing.T, l api.Limits, about string) *both {
	t.Helper()
	d := &both{t, about, mem.New(l), newPlain(l)}
	if d.m == nil {
		t.Fatalf("P10.1: %s: New of %v: nil", about, l)
	}
	d.same("New")
	return d
}

// same holds all that Pages, Page and Dirty tell against the plain copy.
func (d *both) same(call string) {
	d.t.Helper()
	if got, want := d.m.Pages(), d.p.pages(); got != want {
		d.t.Errorf("P10.1: %s: after %s: Pages: got %d, want %d", d.about, call, got, want)
	}
	if got, want := d.m.Dirty(), d.p.dirty(); !slices.Equal(got, want) {
		d.t.Errorf("P10.1: %s: after %s: Dirty: got %v, want %v", d.about, call, got, want)
	}
	for _, i := range []int{math.MinInt, -256, -1, d.p.pages(), 16, 17, 256, 1 << 56, math.MaxInt} {
		if got, want := d.m.Page(i), d.p.page(i); (got == nil) != (want == nil) || !bytes.Equal(got, want) {
			d.t.Errorf("P10.1: %s: after %s: Page(%d): got %x, want %x", d.about, call, i, got, want)
		}
	}
	for i := range d.p.pages() {
		if got, want := d.m.Page(i), d.p.page(i); !bytes.Equal(got, want) {
			d.t.Errorf("P10.1: %s: after %s: Page(%d): got %x, want %x", d.about, call, i, got, want)
		}
	}
}

func (d *both) grow(n int64) int64 {
	d.t.Helper()
	got, want := d.m.Grow(n), d.p.grow(n)
	if got != want {
		d.t.Errorf("P10.1: %s: Grow(%d): got %d, want %d", d.about, n, got, want)
	}
	d.same("Grow")
	return want
}

func (d *both) load(at int64, n int) (uint64, bool) {
	d.t.Helper()
	got, ok := d.m.Load(at, n)
	want, wantOk := d.p.load(at, n)
	if got != want || ok != wantOk {
		d.t.Errorf("P10.1: %s: Load(%d, %d): got %#x, %t, want %#x, %t", d.about, at, n, got, ok, want, wantOk)
	}
	return want, wantOk
}

func (d *both) store(at int64, n int, x uint64) bool {
	d.t.Helper()
	got, want := d.m.Store(at, n, x), d.p.store(at, n, x)
	if got != want {
		d.t.Errorf("P10.1: %s: Store(%d, %d, %#x): got %t, want %t", d.about, at, n, x, got, want)
	}
	d.same("Store")
	return want
}

func (d *both) setPage(i int, b []byte) bool {
	d.t.Helper()
	got, want := d.m.SetPage(i, b), d.p.setPage(i, b)
	if got != want {
		d.t.Errorf("P10.1: %s: SetPage(%d) to %d bytes: got %t, want %t", d.about, i, len(b), got, want)
	}
	d.same("SetPage")
	return want
}

func (d *both) clean() {
	d.t.Helper()
	d.m.Clean()
	d.p.clean()
	d.same("Clean")
}

// fill writes bytes that differ from place to place into all pages.
func (d *both) fill() {
	d.t.Helper()
	for i := range d.p.pages() {
		d.setPage(i, mixed(i+1))
	}
}

// mixed makes a page of bytes without a short period, another one for each seed.
func mixed(seed int) []byte {
	b := make([]byte, api.PageSize)
	x := uint32(seed)
	for i := range b {
		x = x*1664525 + 1013904223
		b[i] = byte(x >> 24)
	}
	return b
}
