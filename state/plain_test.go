package state_test

import (
	"bytes"
	"fmt"
	"math"
	"slices"
	"testing"

	"diapause/api"
	"diapause/leb"
	"diapause/state"
)

func i32(n int64) api.Val { return api.Val{Kind: api.I32, N: n} }

func i64(n int64) api.Val { return api.Val{Kind: api.I64, N: n} }

// full has several of everything, of which no two are the same.
func full() state.State {
	return state.State{
		Vals: []api.Val{i32(1), i64(math.MinInt64), i32(-2), i64(7000000000)},
		Frames: []state.Frame{
			{Fn: 11, Pc: 12, Base: 13, Locals: []api.Val{i64(14), i32(-15)}, Labels: []state.Label{{At: 16, Height: 17}}},
			{Fn: 200, Pc: 300, Base: 400},
			{Fn: 10000, Pc: 9999, Base: 9998, Locals: []api.Val{i32(math.MaxInt32)}, Labels: []state.Label{{At: 127, Height: 128}, {At: 129, Height: 63}, {At: 64, Height: 65}}},
			{Fn: 21, Pc: 22, Base: 23, Locals: []api.Val{i64(math.MaxInt64), i32(math.MinInt32), i64(-1)}},
		},
		Asks: 3,
	}
}

// greatest has as many of everything as there may be, with the numbers that are written longest.
func greatest() state.State {
	s := state.State{Vals: slices.Repeat([]api.Val{i64(math.MinInt64)}, 1000), Asks: 10000}
	for range 32 {
		s.Frames = append(s.Frames, state.Frame{
			Fn: 10000, Pc: 10000, Base: 10000,
			Locals: slices.Repeat([]api.Val{i64(math.MaxInt64)}, 32),
			Labels: slices.Repeat([]state.Label{{At: 10000, Height: 10000}}, 40),
		})
	}
	return s
}

// told writes a state in such a way that two are told alike if and only if all their parts are equal; a nil list is an empty one.
func told(s state.State) string {
	return fmt.Sprintf("%d %v %v", s.Asks, s.Vals, s.Frames)
}

// numbers are all those of a state, beside its values and Asks.
func numbers(s *state.State) []*int {
	var all []*int
	for k := range s.Frames {
		f := &s.Frames[k]
		all = append(all, &f.Fn, &f.Pc, &f.Base)
		for j := range f.Labels {
			all = append(all, &f.Labels[j].At, &f.Labels[j].Height)
		}
	}
	return all
}

// values are all those of a state.
func values(s *state.State) []*api.Val {
	var all []*api.Val
	for k := range s.Vals {
		all = append(all, &s.Vals[k])
	}
	for k := range s.Frames {
		for j := range s.Frames[k].Locals {
			all = append(all, &s.Frames[k].Locals[j])
		}
	}
	return all
}

// may is May, the slow way: all that there is, against its range.
func may(s state.State) bool {
	ok := true
	within := func(n, low, high int64) {
		if n < low || n > high {
			ok = false
		}
	}
	within(int64(s.Asks), -1, 10000)
	within(int64(len(s.Vals)), 0, 1000)
	within(int64(len(s.Frames)), 0, 32)
	for _, f := range s.Frames {
		within(int64(len(f.Locals)), 0, 32)
		within(int64(len(f.Labels)), 0, 40)
	}
	for _, n := range numbers(&s) {
		within(int64(*n), 0, 10000)
	}
	for _, v := range values(&s) {
		within(int64(v.Kind), 1, 2)
		if v.Kind == 1 {
			within(v.N, -1<<31, 1<<31-1)
		}
	}
	return ok
}

// part is a number of an encoding.
type part struct {
	signed bool
	n      int64
}

func (p part) bytes() []byte {
	if p.signed {
		return leb.PutS(nil, p.n)
	}
	return leb.PutU(nil, uint64(p.n))
}

// longer is the same number, written with a byte more than it needs.
func (p part) longer() []byte {
	b := p.bytes()
	b[len(b)-1] |= 0x80
	if p.signed && p.n < 0 {
		return append(b, 0x7f)
	}
	return append(b, 0)
}

// parts are the numbers of a state's encoding. The document leaves the form open; that which the program has is written here
// once more, so that states that are not valid can be written in it, too.
func parts(s state.State) []part {
	var all []part
	add := func(l ...int) {
		for _, n := range l {
			all = append(all, part{n: int64(n)})
		}
	}
	vals := func(l []api.Val) {
		add(len(l))
		for _, v := range l {
			add(v.Kind)
			all = append(all, part{signed: true, n: v.N})
		}
	}
	add(s.Asks + 1)
	vals(s.Vals)
	add(len(s.Frames))
	for _, f := range s.Frames {
		add(f.Fn, f.Pc, f.Base)
		vals(f.Locals)
		add(len(f.Labels))
		for _, l := range f.Labels {
			add(l.At, l.Height)
		}
	}
	return all
}

// written is a state in the form of the encoding, whether it is valid or not.
func written(s state.State) []byte {
	var b []byte
	for _, p := range parts(s) {
		b = append(b, p.bytes()...)
	}
	return b
}

// hold holds all the functions of a state against the plain reading.
func hold(t *testing.T, s state.State, want bool, about string) {
	t.Helper()
	before := told(s)
	if may(s) != want {
		t.Errorf("the test itself: %s: may: got %t", about, !want)
	}
	if got := state.May(s); got != want {
		t.Errorf("P13.1: %s: May: got %t", about, got)
	}
	if c := state.Copy(s); told(c) != before || !state.Eq(c, s) || !state.Eq(s, c) {
		t.Errorf("P13.1: %s: Copy: got %s, want %s", about, told(c), before)
	}
	if !state.Eq(s, s) {
		t.Errorf("P13.1: %s: Eq: it is not itself", about)
	}
	b := state.Encode(s)
	if !want && b != nil {
		t.Errorf("P13.1: %s: Encode of what is not valid: got %x", about, b)
	}
	if want {
		back, err := state.Decode(b)
		if b == nil || err != api.OK || told(back) != before || !state.Eq(back, s) {
			t.Errorf("P13.1: %s: Decode of %x: got %d, %s, want %s", about, b, err, told(back), before)
		}
		if again := state.Encode(back); !bytes.Equal(again, b) {
			t.Errorf("P13.1: %s: Encode, once more: got %x, want %x", about, again, b)
		}
		if plain := written(s); !bytes.Equal(plain, b) {
			t.Errorf("the test itself: %s: written as %x, and encoded as %x", about, plain, b)
		}
	} else if s.Asks >= -1 {
		refuse(t, written(s), about)
	}
	if told(s) != before {
		t.Errorf("P0.3: %s: it was changed", about)
	}
}

// holdBytes holds that Decode answers ErrCorrupt and the zero State, or a valid state whose encoding is b.
func holdBytes(t *testing.T, b []byte, about string) api.Errno {
	t.Helper()
	s, err := state.Decode(b)
	switch err {
	case api.ErrCorrupt:
		if told(s) != told(state.State{}) {
			t.Errorf("P13.1: %s: Decode of %x: ErrCorrupt, and not the zero State: %s", about, b, told(s))
		}
	case api.OK:
		if !may(s) || !state.May(s) || !bytes.Equal(state.Encode(s), b) {
			t.Errorf("P13.1: %s: Decode of %x: %s, whose encoding is %x", about, b, told(s), state.Encode(s))
		}
	default:
		t.Errorf("P13.1: %s: Decode of %x: got %d", about, b, err)
	}
	return err
}

// refuse holds that b is no encoding.
func refuse(t *testing.T, b []byte, about string) {
	t.Helper()
	if err := holdBytes(t, b, about); err != api.ErrCorrupt {
		t.Errorf("P13.1: %s: Decode of %x: got %d, want ErrCorrupt", about, b, err)
	}
}
