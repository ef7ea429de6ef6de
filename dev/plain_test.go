package dev_test

import (
	"math"
	"slices"
	"strings"
	"testing"

	"diapause/api"
	"diapause/dev"
)

// writing is a Write that returned OK.
type writing struct {
	i int
	b string
}

// plain is a device as the chapter tells it: what its sectors were at the last Flush, and all that was written since then, in order.
type plain struct {
	durable []string
	since   []writing
	calls   int
	left    int // calls before it is dead, or -1
}

func newPlain(n int) *plain {
	return &plain{durable: slices.Repeat([]string{strings.Repeat("\x00", 64)}, n), left: -1}
}

func (p *plain) dead() bool { return p.left == 0 }

func (p *plain) has(i int) bool { return 0 <= i && i < len(p.durable) }

// now returns sector i as it was written last.
func (p *plain) now(i int) string {
	s := p.durable[i]
	for _, w := range p.since {
		if w.i == i {
			s = w.b + s[len(w.b):]
		}
	}
	return s
}

func (p *plain) read(i int) (string, api.Errno) {
	if !p.has(i) {
		return "", api.ErrRange
	}
	return p.now(i), api.OK
}

func (p *plain) write(i int, b []byte) api.Errno {
	switch {
	case p.dead():
		return api.ErrDown
	case !p.has(i):
		return api.ErrRange
	case len(b) > 64:
		return api.ErrForm
	}
	p.since = append(p.since, writing{i, string(b)})
	p.succeed()
	return api.OK
}

func (p *plain) flush() api.Errno {
	if p.dead() {
		return api.ErrDown
	}
	for i := range p.durable {
		p.durable[i] = p.now(i)
	}
	p.since = nil
	p.succeed()
	return api.OK
}

func (p *plain) succeed() {
	p.calls++
	if p.left > 0 {
		p.left--
	}
}

func (p *plain) fuse(n int) {
	if !p.dead() {
		p.left = max(n, -1)
	}
}

func (p *plain) loose() []int {
	var l []int
	for i := range p.durable {
		if slices.ContainsFunc(p.since, func(w writing) bool { return w.i == i }) {
			l = append(l, i)
		}
	}
	return l
}

func (p *plain) crash(keep []bool) *plain {
	next := &plain{durable: slices.Clone(p.durable), left: -1}
	for k, i := range p.loose() {
		if k < len(keep) && keep[k] {
			next.durable[i] = p.now(i)
		}
	}
	return next
}

// both are a device and its plain copy: each call goes to both, and both must then be the same in all that can be asked.
type both struct {
	t     *testing.T
	about string
	d     *dev.Dev
	p     *plain
}

func newBoth(t *testing.T, n int, about string) *both {
	t.Helper()
	x := &both{t, about, dev.New(n), newPlain(n)}
	if x.d == nil {
		t.Fatalf("P17.1: %s: New(%d): nil", about, n)
	}
	x.same("New")
	return x
}

// beyond are numbers of sectors that no device has.
func beyond() []int {
	return []int{math.MinInt, math.MinInt + 1, -1 << 58, -1 << 32, -1<<32 + 1, -2048, -64, -2, -1, 2048, 2049, 1 << 16, 1<<31 - 1, 1 << 31,
		1<<32 - 1, 1 << 32, 1<<32 + 1, 1 << 57, 1 << 58, 1<<58 + 1, 1 << 62, math.MaxInt - 1, math.MaxInt}
}

// hold holds all that a device tells of itself, but for its crashes, against the plain copy.
func (x *both) hold(call string) {
	x.t.Helper()
	if got, want := x.d.Len(), len(x.p.durable); got != want {
		x.t.Errorf("P17.1: %s: after %s: Len: got %d, want %d", x.about, call, got, want)
	}
	if got, want := x.d.Calls(), x.p.calls; got != want {
		x.t.Errorf("P17.1: %s: after %s: Calls: got %d, want %d", x.about, call, got, want)
	}
	if got, want := x.d.Dead(), x.p.dead(); got != want {
		x.t.Errorf("P17.1: %s: after %s: Dead: got %t, want %t", x.about, call, got, want)
	}
	if got, want := x.d.Loose(), x.p.loose(); !slices.Equal(got, want) {
		x.t.Errorf("P17.1: %s: after %s: Loose: got %v, want %v", x.about, call, got, want)
	}
	for i := -1; i <= len(x.p.durable); i++ {
		x.read(call, i)
	}
}

func (x *both) read(call string, i int) {
	x.t.Helper()
	got, err := x.d.Read(i)
	want, wantErr := x.p.read(i)
	if string(got) != want || err != wantErr {
		x.t.Errorf("P17.1: %s: after %s: Read(%d): got %x, %d, want %x, %d", x.about, call, i, got, err, want, wantErr)
	}
}

// same holds all that can be asked of the device against the plain copy, and what some crashes would leave of it.
func (x *both) same(call string) {
	x.t.Helper()
	for _, keep := range [][]bool{nil, {true}, {false, true}, slices.Repeat([]bool{true}, len(x.p.durable))} {
		x.crash(keep).hold("a crash behind " + call)
	}
	x.hold(call)
}

func (x *both) write(i int, b []byte) api.Errno {
	x.t.Helper()
	got, want := x.d.Write(i, b), x.p.write(i, b)
	if got != want {
		x.t.Errorf("P17.1: %s: Write(%d) of %d bytes: got %d, want %d", x.about, i, len(b), got, want)
	}
	x.same("Write")
	return want
}

func (x *both) flush() api.Errno {
	x.t.Helper()
	got, want := x.d.Flush(), x.p.flush()
	if got != want {
		x.t.Errorf("P17.1: %s: Flush: got %d, want %d", x.about, got, want)
	}
	x.same("Flush")
	return want
}

func (x *both) fuse(n int) {
	x.t.Helper()
	x.d.Fuse(n)
	x.p.fuse(n)
	x.same("Fuse")
}

// crash returns what a crash leaves, and its plain copy.
func (x *both) crash(keep []bool) *both {
	x.t.Helper()
	next := &both{x.t, x.about + ", crashed", x.d.Crash(keep...), x.p.crash(keep)}
	if next.d == nil || next.d == x.d {
		x.t.Errorf("P17.2: %s: Crash(%t): nil, or the same device", x.about, keep)
	}
	return next
}

// fill writes 64 bytes that differ from place to place into all sectors.
func (x *both) fill(seed int) {
	x.t.Helper()
	for i := range x.p.durable {
		b := mixed(64, seed+i)
		x.d.Write(i, b)
		x.p.write(i, b)
	}
	x.same("filling it")
}

// mixed makes n bytes without a short period, other ones for each seed.
func mixed(n, seed int) []byte {
	b := make([]byte, n)
	x := uint32(seed)
	for i := range b {
		x = x*1664525 + 1013904223
		b[i] = byte(x >> 24)
	}
	return b
}
