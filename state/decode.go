package state

import (
	"diapause/api"
	"diapause/leb"
)

// The bits of the encoded numbers.
const (
	small = 32
	large = 64 // of a value's, whatever its kind
)

// read returns the state whose encoding is b, if there is one, and any state if there is none.
func read(b []byte) State {
	r := &reader{rest: b}
	var s State
	s.Asks = r.number() + noAsk
	s.Vals = getList(r, api.MaxStack, getVal)
	s.Frames = getList(r, api.MaxDepth, getFrame)
	return s
}

// reader goes through what should be the encoding of a state. It looks at no more than it needs to find that state, as all of
// b is held against the state's encoding afterwards.
type reader struct {
	rest []byte
}

// fail gives up what is left, so that only zeros are read from here on.
func (r *reader) fail() {
	r.rest = nil
}

// number reads a number that is not negative.
func (r *reader) number() int {
	n, k, err := leb.U(r.rest, small)
	if err != api.OK {
		r.fail()
		return 0
	}
	r.rest = r.rest[k:]
	return int(n)
}

// signed reads the number of a value.
func (r *reader) signed() int64 {
	n, k, err := leb.S(r.rest, large)
	if err != api.OK {
		r.fail()
		return 0
	}
	r.rest = r.rest[k:]
	return n
}

// getList reads a list of at most so many elements: a few bytes can tell of more than there is memory for.
func getList[E any](r *reader, most int, get func(*reader) E) []E {
	count := r.number()
	if count > most {
		r.fail()
		return nil
	}
	var l []E
	for range count {
		l = append(l, get(r))
	}
	return l
}

func getVal(r *reader) api.Val {
	var v api.Val
	v.Kind = r.number()
	v.N = r.signed()
	return v
}

func getFrame(r *reader) Frame {
	var f Frame
	f.Fn = r.number()
	f.Pc = r.number()
	f.Base = r.number()
	f.Locals = getList(r, api.MaxLocals, getVal)
	f.Labels = getList(r, api.MaxNest, getLabel)
	return f
}

func getLabel(r *reader) Label {
	var l Label
	l.At = r.number()
	l.Height = r.number()
	return l
}
